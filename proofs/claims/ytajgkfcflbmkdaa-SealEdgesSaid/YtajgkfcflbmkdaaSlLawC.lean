/-
  The law SealCuts, walked: it returns true for every sector and number. No condition.
-/
import Derived.Test.YtajgkfcflbmkdaaSlLawA
namespace Go.Proofs.Ytajgkfcflbmkdaa.sel
open Go.RowKit Go.Lib

theorem zeros_one (k : Nat) : ∀ u ∈ (Builtin.zeroCells (Value.int .u8 0).cells k).toList, u.oneCell' = true := by
  intro u hu
  unfold Builtin.zeroCells at hu
  have h1 : (Value.int .u8 0).cells = #[.int .u8 0] := rfl
  rw [h1] at hu
  simp at hu
  obtain ⟨i, hi, rfl⟩ := hu
  simp [Nat.mod_one]
  rfl
/-- append of k noughts onto a slice of the call's own. -/
theorem app_zeros (k N c base : Nat) (X : Option Addr) (l : List UInt8) (ty : TypeId) (w : World) (hown : Own w base 5 (.slice X N c) l) (hN : 0 < N) (hk : 0 < k) (hb : N + k ≤ 1048576) (hB : base ≤ w.heap.size) :
    ∃ Y y w', (Builtin.append_ #[22, 3] ty #[.slice X N c, .int .i64 (k : Int)]).run Try.prog w = .ok (.slice Y (N + k) y) w' ∧ Below base w w' := by
  obtain ⟨ht, _, i, hi, hz, h1, hb8⟩ := t8
  rcases hown.2 with ⟨h, -⟩ | ⟨g, cap, cur, h, hbg, hg, hc, hm, hcs, htk⟩
  · simp only [Value.slice.injEq] at h
    omega
  · simp only [Value.slice.injEq] at h
    obtain ⟨rfl, hlen, rfl⟩ := h
    subst hlen
    by_cases hroom : l.length + k ≤ c
    · have hzs : (Builtin.zeroCells (Value.int .u8 0).cells k).size = k := by
        have h2 : (Value.int .u8 0).cells.size = 1 := rfl
        rw [size_zeroCells, h2, Nat.mul_one]
      have hst := run_storeCells_at Try.prog g (l.length * 1) 5 (Builtin.zeroCells (Value.int .u8 0).cells k).toList 0 cur w hg (by rw [show (Builtin.zeroCells (Value.int .u8 0).cells k).toList.length = k by rw [Array.length_toList, hzs]]; simp; omega) (zeros_one k)
      simp only [Nat.mul_one] at hst
      obtain ⟨Z, hZ⟩ : ∃ Z : Array Value, (storeCells ⟨g, l.length, none⟩ (Builtin.zeroCells (Value.int .u8 0).cells k).toList 0).run Try.prog w = .ok () (w.setRow g Z) := ⟨_, hst⟩
      have hw : IntKind.i64.wrap (k : Int) = k := by rw [IntKind.wrap_i64]; omega
      have hneg : ¬ ((k : Int) < 0) := by omega
      have h48i : ¬ (281474976710656 < (k : Int) * (i.bytes : Int)) := by rw [hb8]; omega
      have hk0 : k ≠ 0 := by omega
      refine ⟨some ⟨g, 0, none⟩, c, w.setRow g Z, ?_, (Below.refl _ _).grown (row := some g) ⟨rfl, rfl, rfl, by simp, fun q _ hq => setRow_other w g q _ (fun e => hq (by rw [e]))⟩ hB (fun q hq => by cases hq; exact hbg)⟩
      simp [Builtin.append_, run_underlying ht, run_underlying Try.underlying3, sizeOf, typeInfo, zeroValue, hi, hz, h1, asInt, asIntOf, hw, hneg, h48i, hroom, hk0, Addr.add_lit, hZ]
    · have hold : (Builtin.firstCells i.size l.length (.slice (some ⟨g, 0, none⟩) l.length c)).run Try.prog w.drew = .ok (cells8 l).toArray w.drew :=
        run_firstCells_some w.drew i.size l.length ⟨g, 0, none⟩ l.length c (cells8 l) (by rw [cells8_length, h1, Nat.mul_one]) (fun j u hu => by
          have hj : j < l.length := by
            rcases Nat.lt_or_ge j l.length with k | k
            · exact k
            · rw [List.getElem?_eq_none (by rw [cells8_length]; exact k)] at hu; cases hu
          have := Own.cell hown j hj
          rw [Addr.add_lit, Nat.zero_add]
          rw [List.getElem?_eq_getElem (by rw [cells8_length]; exact hj)] at hu
          simp only [Option.some.injEq] at hu
          subst hu
          rw [show w.drew.cell? ⟨g, j, none⟩ = w.cell? ⟨g, j, none⟩ from rfl, this]
          simp [cells8])
      have hr := run_append_grow_zeros (P := Try.prog) w 22 3 ty 5 i (.int .u8 0) .i64 .i64 ht Try.underlying3 hi hz (some ⟨g, 0, none⟩) l.length c (cells8 l) hold k hk (by omega) (by omega) (by omega) (by rw [hb8]; omega) (growslice_fits (by omega) (by rw [hb8]; omega))
      exact ⟨_, _, _, hr, (below_dr (Below.refl _ _)).alloc hB _⟩

theorem cuts_out (a s k : Int) (A : Option Addr) (n c : Nat) (w : World) (h : 96 < n ∨ ¬ OkS a s) :
    Calls Try.prog 6 #[.agg #[.int .i64 a, .int .i64 s, .slice A n c], .int .i64 k] w fun e w' => e = .returned (.bool true) ∧ Below w.heap.size w w' := by
  have hb0 := bl w (.cells #[.int .i64 a, .int .i64 s, .slice A n c] 24)
  by_cases h1 : 96 < n
  · have i1 : (96 : Int) < (n : Int) := by omega
    clear h h1
    go_enter Try.func6, Try.ntmps6
    go_wp2
    go_ret
    exact ⟨rfl, hb0⟩
  · have i1 : ¬ (96 : Int) < (n : Int) := by omega
    have ho : ¬ OkS a s := h.resolve_left h1
    have cR := fun (W : World) => ref_right a s (.slice A n c) W ⟨A, n, c, rfl⟩
    rw [decide_eq_false ho] at cR
    clear h h1 ho
    go_enter Try.func6, Try.ntmps6
    go_wp2_with (first
      | (go_at_call 18; (with_reducible refine (cR _).mono ?_); rintro e w1 ⟨rfl, hb1⟩))
    go_ret
    exact ⟨rfl, bt hb0 hb1⟩

theorem wrap_mod (i : Int) (m : Nat) (hm : 0 < m) : ∃ a : Nat, a < m ∧ (IntKind.u64.wrap i).tmod (m : Int) = (a : Int) := by
  have h0 := wrap_nonneg i
  generalize IntKind.u64.wrap i = y at *
  have h1 := Int.tmod_lt_of_pos y (show (0 : Int) < m by omega)
  have h2 := Int.tmod_nonneg (a := y) (m : Int) h0
  exact ⟨(y.tmod m).toNat, by omega, by omega⟩
set_option maxHeartbeats 1000000 in
theorem cuts_go (a s k : Int) (A : Option Addr) (n c N j : Nat) (l E : List UInt8) (w : World) (hln : l.length = n) (h : n ≤ 96) (ho : OkS a s) (hA : Sl w w.heap.size A l) (hM : made a s l = ⟨0, E⟩) (hN : E.length = N) (hN1 : 11 ≤ N) (hN2 : N ≤ 107) (hj : j < 11) (hk : (IntKind.u64.wrap k).tmod 11 = (j : Int)) :
    Calls Try.prog 6 #[.agg #[.int .i64 a, .int .i64 s, .slice A n c], .int .i64 k] w fun e w' => e = .returned (.bool true) ∧ Below w.heap.size w w' := by
  have i1 : ¬ (96 : Int) < (n : Int) := by omega
  have i2 : ¬ (N : Int) < 11 := by omega
  have hb0 := bl w (.cells #[.int .i64 a, .int .i64 s, .slice A n c] 24)
  have h3 := three_new w (.int .i64 a) (.int .i64 s) (.slice A n c) 24
  have hl3 : w.heap.size < (w.alloc (.cells #[.int .i64 a, .int .i64 s, .slice A n c] 24)).heap.size := by simp
  have cR := fun (W : World) => ref_right a s (.slice A n c) W ⟨A, n, c, rfl⟩
  rw [decide_eq_true ho] at cR
  have cM := fun (W : World) (hb : Below w.heap.size w W) => make_at a s A n c l W hln ((hA.below hb).more hb.size)
  rw [hM] at cM
  simp only [hN] at cM
  have cO : ∀ (W : World) (X : Option Addr) (x : Nat), Calls Try.prog 12 #[.slice X j x] W fun e w' => e = .returned (.tuple #[.agg #[.int .i64 0, .int .i64 0, .slice none 0 0], .int .i64 4]) ∧ Below W.heap.size W w' := fun W X x => open_long j x X W (.inl hj)
  have cO2 : ∀ (W : World) (X : Option Addr) (x : Nat), Calls Try.prog 12 #[.slice X (N + 108) x] W fun e w' => e = .returned (.tuple #[.agg #[.int .i64 0, .int .i64 0, .slice none 0 0], .int .i64 4]) ∧ Below W.heap.size W w' := fun W X x => open_long (N + 108) x X W (.inr (by omega))
  have cT : ∀ (W : World) (X : Option Addr) (x : Nat), Lies W X x E → Calls Try.prog 10 #[.slice X N x] W fun e w' => (∃ Y y, e = .returned (.slice Y N y) ∧ Own w' W.heap.size 5 (.slice Y N y) E) ∧ Below W.heap.size W w' := fun W X x h => by
    have := twin_any X x _ E W h.2.2 (by omega)
    rw [hN] at this
    refine this.mono ?_
    rintro e w' ⟨⟨v, rfl, ho⟩, hb⟩
    obtain ⟨Y, y, rfl, -, -, -, -⟩ := ho.form
    rw [hN] at ho ⊢
    exact ⟨⟨Y, y, rfl, ho⟩, hb⟩
  have cZ := fun (W : World) (base : Nat) (X : Option Addr) (x : Nat) (ty : TypeId) (ho : Own W base 5 (.slice X N x) E) (hB : base ≤ W.heap.size) => app_zeros 108 N x base X E ty W ho (by omega) (by omega) (by omega) hB
  have HM := Lib.hid cM
  have HO := Lib.hid cO
  have HO2 := Lib.hid cO2
  have HT := Lib.hid cT
  have HZ := Lib.hid cZ
  have HN := Lib.hid hN
  have v1 : (j : Int) ≤ (N : Int) := by omega
  clear cM cO cO2 cT cZ hM hN hA hln ho h
  go_enter Try.func6, Try.ntmps6
  go_wp2_with fail
  generalize w.alloc (.cells #[.int .i64 a, .int .i64 s, .slice A n c] 24) = w0 at *
  go_wp2_with (first
    | (go_at_call 18; (with_reducible refine (cR _).mono ?_); rintro e w1 ⟨rfl, hb1⟩; obtain ⟨k0, k1, k2, -, -, -⟩ := h3.keep hb1 hl3; have hd1 := bt hb0 hb1)
    | (go_at_call 11; (with_reducible refine (HM.out _ hd1).mono ?_); rintro e w2 ⟨⟨X, x, rfl, hX⟩, hb2⟩; have hx1 := hX.1; rw [HN.out] at hx1; have hx2 : (j : Int) ≤ (x : Int) := (by omega))
    | (go_at_call 12; (with_reducible refine (HO.out _ _ _).mono ?_); rintro e w3 ⟨rfl, hb3⟩; have hb3' := kal hb3 (.cells #[.int .i64 0, .int .i64 0, .slice none 0 0] 24))
    | (go_at_call 10; (with_reducible refine (HT.out _ _ _ (hX.next hb3')).mono ?_); rintro e w4 ⟨⟨Y, y, rfl, hY⟩, hb4⟩; obtain ⟨Z, z, w5, hr, hb5⟩ := HZ.out w4 _ Y y 22 hY hb4.size)
    | (at_builtin; refine wpList_appRun _ rfl (.tmp 45) (.const (.int .i64 108)) _ _ rfl _ _ _ _ rfl rfl hr ?_)
    | (go_at_call 12; (with_reducible refine (HO2.out _ _ _).mono ?_); rintro e w6 ⟨rfl, hb6⟩; have hb6' := kal hb6 (.cells #[.int .i64 0, .int .i64 0, .slice none 0 0] 24))
    | (go_at_call 19; (with_reducible refine (wk_any _).mono ?_); rintro e w7 ⟨rfl, hb7⟩))
  go_ret
  have hb35 := hb4.trans hb5
  exact ⟨rfl, bt hd1 (bt hb2 (bt hb3' (bt hb35 (bt hb6' hb7))))⟩
theorem cuts_law (a s k : Int) (A : Option Addr) (c : Nat) (l : List UInt8) (w : World) (hA : Sl w w.heap.size A l) :
    Calls Try.prog 6 #[.agg #[.int .i64 a, .int .i64 s, .slice A l.length c], .int .i64 k] w fun e w' => e = .returned (.bool true) ∧ Below w.heap.size w w' := by
  by_cases h : 96 < l.length ∨ ¬ OkS a s
  · exact cuts_out a s k A _ c w h
  · have ho : OkS a s := by
      by_cases k : OkS a s
      · exact k
      · exact absurd (.inr k) h
    have hl : l.length ≤ 96 := by omega
    obtain ⟨j, hj, hk⟩ := wrap_mod k 11 (by omega)
    have hM : made a s l = ⟨0, enc a.toNat s.toNat l⟩ := by unfold made; rw [if_pos ho, if_neg (by omega)]
    exact cuts_go a s k A _ c _ j l _ w rfl hl ho hA hM rfl (by rw [enc_length]; omega) (by rw [enc_length]; omega) hj hk
end Go.Proofs.Ytajgkfcflbmkdaa.sel
