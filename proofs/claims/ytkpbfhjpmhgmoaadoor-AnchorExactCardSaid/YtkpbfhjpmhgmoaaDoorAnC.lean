/-
  anchor.homeFits, numbersFit, Check: is an anchor right? Each by its contract. Conditions: rows shorter than 2^20; what label.Check answers of its label is given.
-/
import Derived.Test.YtkpbfhjpmhgmoaaDoorAnP
import Derived.Test.YtkpbfhjpmhgmoaaDoorAnR
import Derived.Test.YtkpbfhjpmhgmoaaDoorGGm
namespace Go.Proofs.YtkpbfhjpmhgmoaaDoor.anc
open Go.RowKit Go.Lib
open Go.Proofs.YtkpbfhjpmhgmoaaDoor.gmt (Ok five_new check_ok check_no)

def NumOk (l : Int) (a : Anc) : Prop := (0 ≤ a.gen ∧ a.gen ≤ 4294967295) ∧ (0 ≤ a.ep ∧ a.ep ≤ 4294967295) ∧ (1 ≤ a.seq ∧ a.seq ≤ 4294967295) ∧ (0 ≤ a.last ∧ a.last ≤ 4294967295) ∧ a.seq - 1 ≤ a.last ∧ 0 ≤ a.pos ∧ a.pos ≤ l - 1
set_option maxRecDepth 100000 in
set_option maxHeartbeats 4000000 in
theorem numbersFit_any (c : Bool) (z d s l a : Int) (x : AV) (w : World) (ho : Ok z d s l a) (hc : c = true ↔ NumOk l x.d) :
    Calls Tryd.prog 39 #[.agg #[.int .i64 z, .int .i64 d, .int .i64 s, .int .i64 l, .int .i64 a], x.v] w fun e w' => e = .returned (.bool c) ∧ Below w.heap.size w w' := by
  unfold AV.v
  obtain ⟨-, -, -, o4, -⟩ := ho
  have hb0 := kal (bl w (.cells #[.int .i64 z, .int .i64 d, .int .i64 s, .int .i64 l, .int .i64 a] 23)) (.cells #[.int .i64 x.gen, .int .i64 x.ep, .int .i64 x.pos, .int .i64 x.seq, .int .i64 x.last, .string x.lab, .slice x.HA x.hs.length x.hc] 26)
  obtain ⟨-, -, -, g3, -⟩ := five_new w z d s l a
  have hbX := bl (w.alloc (.cells #[.int .i64 z, .int .i64 d, .int .i64 s, .int .i64 l, .int .i64 a] 23)) (.cells #[.int .i64 x.gen, .int .i64 x.ep, .int .i64 x.pos, .int .i64 x.seq, .int .i64 x.last, .string x.lab, .slice x.HA x.hs.length x.hc] 26)
  have lg : w.heap.size < (w.alloc (.cells #[.int .i64 z, .int .i64 d, .int .i64 s, .int .i64 l, .int .i64 a] 23)).heap.size := by simp
  replace g3 := kst hbX lg g3
  obtain ⟨k0, k1, k2, k3, k4, -, -⟩ := ac_new (w.alloc (.cells #[.int .i64 z, .int .i64 d, .int .i64 s, .int .i64 l, .int .i64 a] 23)) x
  rw [show (w.alloc (.cells #[.int .i64 z, .int .i64 d, .int .i64 s, .int .i64 l, .int .i64 a] 23)).heap.size = w.heap.size + 1 by simp] at k0 k1 k2 k3 k4
  clear hbX lg
  have HC : Hid (c = true ↔ (0 ≤ x.gen ∧ x.gen ≤ 4294967295) ∧ (0 ≤ x.ep ∧ x.ep ≤ 4294967295) ∧ (1 ≤ x.seq ∧ x.seq ≤ 4294967295) ∧ (0 ≤ x.last ∧ x.last ≤ 4294967295) ∧ x.seq - 1 ≤ x.last ∧ 0 ≤ x.pos ∧ x.pos ≤ l - 1) := Lib.hid hc
  clear hc
  by_cases h0 : 0 ≤ x.gen ∧ x.gen ≤ 4294967295
  · skip
    by_cases h1 : 0 ≤ x.ep ∧ x.ep ≤ 4294967295
    · skip
      by_cases h2 : 0 ≤ x.seq ∧ x.seq ≤ 4294967295
      · skip
        by_cases h3 : 0 ≤ x.last ∧ x.last ≤ 4294967295
        · skip
          by_cases h4 : 1 ≤ x.seq
          · skip
            by_cases h5 : x.seq - 1 ≤ x.last
            · skip
              by_cases h6 : 0 ≤ x.pos
              · skip
                by_cases h7 : x.pos < l
                · skip
                  obtain rfl : c = true := HC.out.2 ⟨h0, h1, ⟨h4, h2.2⟩, h3, h5, h6, by omega⟩
                  have e7 : decide (x.pos < l) = true := decide_eq_true h7
                  have c0 := fun W => isNum_at true x.gen W (iff_of_true rfl h0)
                  have c1 := fun W => isNum_at true x.ep W (iff_of_true rfl h1)
                  have c2 := fun W => isNum_at true x.seq W (iff_of_true rfl h2)
                  have c3 := fun W => isNum_at true x.last W (iff_of_true rfl h3)
                  clear HC
                  go_enter Tryd.func39, Tryd.ntmps39
                  go_wp2_with (first
                    | (go_at_call 58; (with_reducible refine (c0 _).mono ?_); rintro e wi ⟨rfl, rfl⟩)
                    | (go_at_call 58; (with_reducible refine (c1 _).mono ?_); rintro e wi ⟨rfl, rfl⟩)
                    | (go_at_call 58; (with_reducible refine (c2 _).mono ?_); rintro e wi ⟨rfl, rfl⟩)
                    | (go_at_call 58; (with_reducible refine (c3 _).mono ?_); rintro e wi ⟨rfl, rfl⟩))
                  go_ret
                  exact ⟨rfl, hb0⟩
                · obtain rfl : c = false := by
                    cases c with
                    | false => rfl
                    | true =>
                      have := HC.out.1 rfl
                      exact absurd (by omega) h7
                  have c0 := fun W => isNum_at true x.gen W (iff_of_true rfl h0)
                  have c1 := fun W => isNum_at true x.ep W (iff_of_true rfl h1)
                  have c2 := fun W => isNum_at true x.seq W (iff_of_true rfl h2)
                  have c3 := fun W => isNum_at true x.last W (iff_of_true rfl h3)
                  clear HC
                  have e7 : decide (x.pos < l) = false := decide_eq_false h7
                  go_enter Tryd.func39, Tryd.ntmps39
                  go_wp2_with (first
                    | (go_at_call 58; (with_reducible refine (c0 _).mono ?_); rintro e wi ⟨rfl, rfl⟩)
                    | (go_at_call 58; (with_reducible refine (c1 _).mono ?_); rintro e wi ⟨rfl, rfl⟩)
                    | (go_at_call 58; (with_reducible refine (c2 _).mono ?_); rintro e wi ⟨rfl, rfl⟩)
                    | (go_at_call 58; (with_reducible refine (c3 _).mono ?_); rintro e wi ⟨rfl, rfl⟩))
                  go_ret
                  exact ⟨rfl, hb0⟩
              · obtain rfl : c = false := by
                  cases c with
                  | false => rfl
                  | true =>
                    have := HC.out.1 rfl
                    exact absurd (by omega) h6
                have c0 := fun W => isNum_at true x.gen W (iff_of_true rfl h0)
                have c1 := fun W => isNum_at true x.ep W (iff_of_true rfl h1)
                have c2 := fun W => isNum_at true x.seq W (iff_of_true rfl h2)
                have c3 := fun W => isNum_at true x.last W (iff_of_true rfl h3)
                clear HC
                go_enter Tryd.func39, Tryd.ntmps39
                go_wp2_with (first
                  | (go_at_call 58; (with_reducible refine (c0 _).mono ?_); rintro e wi ⟨rfl, rfl⟩)
                  | (go_at_call 58; (with_reducible refine (c1 _).mono ?_); rintro e wi ⟨rfl, rfl⟩)
                  | (go_at_call 58; (with_reducible refine (c2 _).mono ?_); rintro e wi ⟨rfl, rfl⟩)
                  | (go_at_call 58; (with_reducible refine (c3 _).mono ?_); rintro e wi ⟨rfl, rfl⟩))
                go_ret
                exact ⟨rfl, hb0⟩
            · obtain rfl : c = false := by
                cases c with
                | false => rfl
                | true =>
                  have := HC.out.1 rfl
                  exact absurd (by omega) h5
              have c0 := fun W => isNum_at true x.gen W (iff_of_true rfl h0)
              have c1 := fun W => isNum_at true x.ep W (iff_of_true rfl h1)
              have c2 := fun W => isNum_at true x.seq W (iff_of_true rfl h2)
              have c3 := fun W => isNum_at true x.last W (iff_of_true rfl h3)
              clear HC
              have h5' : x.last < x.seq - 1 := by omega
              go_enter Tryd.func39, Tryd.ntmps39
              go_wp2_with (first
                | (go_at_call 58; (with_reducible refine (c0 _).mono ?_); rintro e wi ⟨rfl, rfl⟩)
                | (go_at_call 58; (with_reducible refine (c1 _).mono ?_); rintro e wi ⟨rfl, rfl⟩)
                | (go_at_call 58; (with_reducible refine (c2 _).mono ?_); rintro e wi ⟨rfl, rfl⟩)
                | (go_at_call 58; (with_reducible refine (c3 _).mono ?_); rintro e wi ⟨rfl, rfl⟩))
              go_ret
              exact ⟨rfl, hb0⟩
          · obtain rfl : c = false := by
              cases c with
              | false => rfl
              | true =>
                have := HC.out.1 rfl
                exact absurd (by omega) h4
            have c0 := fun W => isNum_at true x.gen W (iff_of_true rfl h0)
            have c1 := fun W => isNum_at true x.ep W (iff_of_true rfl h1)
            have c2 := fun W => isNum_at true x.seq W (iff_of_true rfl h2)
            have c3 := fun W => isNum_at true x.last W (iff_of_true rfl h3)
            clear HC
            go_enter Tryd.func39, Tryd.ntmps39
            go_wp2_with (first
              | (go_at_call 58; (with_reducible refine (c0 _).mono ?_); rintro e wi ⟨rfl, rfl⟩)
              | (go_at_call 58; (with_reducible refine (c1 _).mono ?_); rintro e wi ⟨rfl, rfl⟩)
              | (go_at_call 58; (with_reducible refine (c2 _).mono ?_); rintro e wi ⟨rfl, rfl⟩)
              | (go_at_call 58; (with_reducible refine (c3 _).mono ?_); rintro e wi ⟨rfl, rfl⟩))
            go_ret
            exact ⟨rfl, hb0⟩
        · obtain rfl : c = false := by
            cases c with
            | false => rfl
            | true =>
              have := HC.out.1 rfl
              exact absurd (by omega) h3
          have c0 := fun W => isNum_at true x.gen W (iff_of_true rfl h0)
          have c1 := fun W => isNum_at true x.ep W (iff_of_true rfl h1)
          have c2 := fun W => isNum_at true x.seq W (iff_of_true rfl h2)
          have c3 := fun W => isNum_at false x.last W (iff_of_false Bool.false_ne_true h3)
          clear HC
          go_enter Tryd.func39, Tryd.ntmps39
          go_wp2_with (first
            | (go_at_call 58; (with_reducible refine (c0 _).mono ?_); rintro e wi ⟨rfl, rfl⟩)
            | (go_at_call 58; (with_reducible refine (c1 _).mono ?_); rintro e wi ⟨rfl, rfl⟩)
            | (go_at_call 58; (with_reducible refine (c2 _).mono ?_); rintro e wi ⟨rfl, rfl⟩)
            | (go_at_call 58; (with_reducible refine (c3 _).mono ?_); rintro e wi ⟨rfl, rfl⟩))
          go_ret
          exact ⟨rfl, hb0⟩
      · obtain rfl : c = false := by
          cases c with
          | false => rfl
          | true =>
            have := HC.out.1 rfl
            exact absurd (by omega) h2
        have c0 := fun W => isNum_at true x.gen W (iff_of_true rfl h0)
        have c1 := fun W => isNum_at true x.ep W (iff_of_true rfl h1)
        have c2 := fun W => isNum_at false x.seq W (iff_of_false Bool.false_ne_true h2)
        clear HC
        go_enter Tryd.func39, Tryd.ntmps39
        go_wp2_with (first
          | (go_at_call 58; (with_reducible refine (c0 _).mono ?_); rintro e wi ⟨rfl, rfl⟩)
          | (go_at_call 58; (with_reducible refine (c1 _).mono ?_); rintro e wi ⟨rfl, rfl⟩)
          | (go_at_call 58; (with_reducible refine (c2 _).mono ?_); rintro e wi ⟨rfl, rfl⟩))
        go_ret
        exact ⟨rfl, hb0⟩
    · obtain rfl : c = false := by
        cases c with
        | false => rfl
        | true =>
          have := HC.out.1 rfl
          exact absurd (by omega) h1
      have c0 := fun W => isNum_at true x.gen W (iff_of_true rfl h0)
      have c1 := fun W => isNum_at false x.ep W (iff_of_false Bool.false_ne_true h1)
      clear HC
      go_enter Tryd.func39, Tryd.ntmps39
      go_wp2_with (first
        | (go_at_call 58; (with_reducible refine (c0 _).mono ?_); rintro e wi ⟨rfl, rfl⟩)
        | (go_at_call 58; (with_reducible refine (c1 _).mono ?_); rintro e wi ⟨rfl, rfl⟩))
      go_ret
      exact ⟨rfl, hb0⟩
  · obtain rfl : c = false := by
      cases c with
      | false => rfl
      | true =>
        have := HC.out.1 rfl
        exact absurd (by omega) h0
    have c0 := fun W => isNum_at false x.gen W (iff_of_false Bool.false_ne_true h0)
    clear HC
    go_enter Tryd.func39, Tryd.ntmps39
    go_wp2_with (first
      | (go_at_call 58; (with_reducible refine (c0 _).mono ?_); rintro e wi ⟨rfl, rfl⟩))
    go_ret
    exact ⟨rfl, hb0⟩

set_option maxRecDepth 100000 in
set_option maxHeartbeats 4000000 in
theorem homeFits_go (c : Bool) (z d s l a : Int) (A : Option Addr) (uc : Nat) (ps : List Int) (nx rt : Int) (w : World) (ho : Ok z d s l a) (hu : SlV w w.heap.size A (ints ps) ∧ ps.length ≤ uc ∧ uc ≤ maxLen) (hc : c = true ↔ HomeOk d s ⟨ps, nx, rt⟩) :
    Calls Tryd.prog 40 #[.agg #[.int .i64 z, .int .i64 d, .int .i64 s, .int .i64 l, .int .i64 a], .agg #[.slice A ps.length uc, .int .i64 nx, .int .i64 rt]] w fun e w' => e = .returned (.bool c) ∧ Below w.heap.size w w' := by
  have cP := fun W => placeCount_at z d s l a W ho
  obtain ⟨-, o2, o3, -⟩ := ho
  have hb0 := kal (bl w (.cells #[.int .i64 z, .int .i64 d, .int .i64 s, .int .i64 l, .int .i64 a] 23)) (.cells #[.slice A ps.length uc, .int .i64 nx, .int .i64 rt] 54)
  obtain ⟨g0, g1, g2, g3, g4⟩ := five_new w z d s l a
  have hbX := bl (w.alloc (.cells #[.int .i64 z, .int .i64 d, .int .i64 s, .int .i64 l, .int .i64 a] 23)) (.cells #[.slice A ps.length uc, .int .i64 nx, .int .i64 rt] 54)
  have lg : w.heap.size < (w.alloc (.cells #[.int .i64 z, .int .i64 d, .int .i64 s, .int .i64 l, .int .i64 a] 23)).heap.size := by simp
  replace g0 := kst hbX lg g0
  replace g1 := kst hbX lg g1
  replace g2 := kst hbX lg g2
  replace g3 := kst hbX lg g3
  replace g4 := kst hbX lg g4
  have n0 : ((w.alloc (.cells #[.int .i64 z, .int .i64 d, .int .i64 s, .int .i64 l, .int .i64 a] 23)).alloc (.cells #[.slice A ps.length uc, .int .i64 nx, .int .i64 rt] 54)).cell? ⟨w.heap.size + 1, 0, none⟩ = some (.slice A ps.length uc) := by rw [cell_of_row _ _ _ _ _ _ (show ((w.alloc (.cells #[.int .i64 z, .int .i64 d, .int .i64 s, .int .i64 l, .int .i64 a] 23)).alloc (.cells #[.slice A ps.length uc, .int .i64 nx, .int .i64 rt] 54)).heap[w.heap.size + 1]? = some (.cells #[.slice A ps.length uc, .int .i64 nx, .int .i64 rt] 54) by have := heap_alloc_new (w.alloc (.cells #[.int .i64 z, .int .i64 d, .int .i64 s, .int .i64 l, .int .i64 a] 23)) (.cells #[.slice A ps.length uc, .int .i64 nx, .int .i64 rt] 54); simpa using this)]; rfl
  have n1 : ((w.alloc (.cells #[.int .i64 z, .int .i64 d, .int .i64 s, .int .i64 l, .int .i64 a] 23)).alloc (.cells #[.slice A ps.length uc, .int .i64 nx, .int .i64 rt] 54)).cell? ⟨w.heap.size + 1, 1, none⟩ = some (.int .i64 nx) := by rw [cell_of_row _ _ _ _ _ _ (show ((w.alloc (.cells #[.int .i64 z, .int .i64 d, .int .i64 s, .int .i64 l, .int .i64 a] 23)).alloc (.cells #[.slice A ps.length uc, .int .i64 nx, .int .i64 rt] 54)).heap[w.heap.size + 1]? = some (.cells #[.slice A ps.length uc, .int .i64 nx, .int .i64 rt] 54) by have := heap_alloc_new (w.alloc (.cells #[.int .i64 z, .int .i64 d, .int .i64 s, .int .i64 l, .int .i64 a] 23)) (.cells #[.slice A ps.length uc, .int .i64 nx, .int .i64 rt] 54); simpa using this)]; rfl
  have n2 : ((w.alloc (.cells #[.int .i64 z, .int .i64 d, .int .i64 s, .int .i64 l, .int .i64 a] 23)).alloc (.cells #[.slice A ps.length uc, .int .i64 nx, .int .i64 rt] 54)).cell? ⟨w.heap.size + 1, 2, none⟩ = some (.int .i64 rt) := by rw [cell_of_row _ _ _ _ _ _ (show ((w.alloc (.cells #[.int .i64 z, .int .i64 d, .int .i64 s, .int .i64 l, .int .i64 a] 23)).alloc (.cells #[.slice A ps.length uc, .int .i64 nx, .int .i64 rt] 54)).heap[w.heap.size + 1]? = some (.cells #[.slice A ps.length uc, .int .i64 nx, .int .i64 rt] 54) by have := heap_alloc_new (w.alloc (.cells #[.int .i64 z, .int .i64 d, .int .i64 s, .int .i64 l, .int .i64 a] 23)) (.cells #[.slice A ps.length uc, .int .i64 nx, .int .i64 rt] 54); simpa using this)]; rfl
  have l1 : ((w.alloc (.cells #[.int .i64 z, .int .i64 d, .int .i64 s, .int .i64 l, .int .i64 a] 23)).alloc (.cells #[.slice A ps.length uc, .int .i64 nx, .int .i64 rt] 54)).heap.size = w.heap.size + 2 := by simp
  have HC : Hid (c = true ↔ ((ps.length : Int) = d + 1) ∧ (d + 1 ≤ nx ∧ nx ≤ d + 1 + s) ∧ (0 ≤ rt ∧ rt ≤ 4294967295) ∧ ∀ i (hi : i < ps.length), (0 ≤ ps[i] ∧ ps[i] ≤ nx - 1) ∧ ∀ k (hk : k < i), ps[k] ≠ ps[i]) := Lib.hid hc
  have hmx : ps.length ≤ maxLen := Nat.le_trans hu.2.1 hu.2.2
  have hcp := hu.2.1
  have HP := Lib.hid (hu.1.below hb0)
  clear hc hbX lg hu
  unfold maxLen at hmx
  go_enter Tryd.func40, Tryd.ntmps40
  go_upto_region 1 with fail
  generalize (w.alloc (.cells #[.int .i64 z, .int .i64 d, .int .i64 s, .int .i64 l, .int .i64 a] 23)).alloc (.cells #[.slice A ps.length uc, .int .i64 nx, .int .i64 rt] 54) = w0 at *
  go_upto_region 2 with (go_at_call 51; (with_reducible refine (cP _).mono ?_); rintro e w1 ⟨rfl, hb1⟩; replace g2 := kst hb1 (by omega) g2; replace n0 := kst hb1 (by omega) n0; replace n1 := kst hb1 (by omega) n1; replace n2 := kst hb1 (by omega) n2)
  have hbw := bt hb0 hb1
  have HP1 := Lib.hid (HP.out.below (hb1.mono (by omega)))
  clear g0 g1 g3 g4 hb0 hb1 HP l1 cP
  by_cases y0 : (ps.length : Int) = d + 1
  · skip
    by_cases y1 : d + 1 ≤ nx
    · skip
      by_cases y2 : nx ≤ d + 1 + s
      · skip
        by_cases y3 : 0 ≤ rt ∧ rt ≤ 4294967295
        · skip
          have z0 : ((ps.length : Int) != d + 1) = false := by rw [y0]; exact bne_self_eq_false _
          have c3 := fun W => isNum_at true rt W (iff_of_true rfl y3)
          replace HC : Hid (c = true ↔ ∀ i (hi : i < ps.length), (0 ≤ ps[i] ∧ ps[i] ≤ nx - 1) ∧ ∀ k (hk : k < i), ps[k] ≠ ps[i]) := Lib.hid (HC.out.trans ⟨fun h => h.2.2.2, fun h => ⟨y0, ⟨y1, y2⟩, y3, h⟩⟩)
          replace y0 := Lib.hid y0
          go_wp2_with (go_at_call 58; (with_reducible refine (c3 _).mono ?_); rintro e wi ⟨rfl, rfl⟩)
          clear z0 c3 y3
          go_loop [39] (fun i => ∃ k : Nat, k ≤ ps.length ∧ i = .int .i64 k ∧ ∀ i (hi : i < ps.length), i < k → (0 ≤ ps[i] ∧ ps[i] ≤ nx - 1) ∧ ∀ k (hk : k < i), ps[k] ≠ ps[i]) (fun i => ps.length - (RowKit.intOf i).toNat)
          case atStart => exact ⟨0, by omega, rfl, fun i hi h => by omega⟩
          case round =>
            obtain ⟨q, hq, rfl, hq2⟩ := hrel
            by_cases hqt : q < ps.length
            · obtain ⟨b3, off3, e5, hb3, hc3⟩ := HP1.out (by rw [ints_length]; omega)
              have s0 := hc3 q (by rw [ints_length]; omega)
              rw [ints_get] at s0
              subst e5
              have j1 : (q : Int) < (ps.length : Int) := by omega
              have j2 : (0 : Int) ≤ (q : Int) := by omega
              have j3 : (q : Int) ≤ (uc : Int) := by omega
              obtain ⟨pq, hpq⟩ : ∃ pq, pq = ps[q] := ⟨_, rfl⟩
              rw [← hpq] at s0
              have HT : Hid (SlV w1 w.heap.size (some ⟨b3, off3, none⟩) (ints (ps.take q))) := Lib.hid (by have := HP1.out.take q; unfold ints at this ⊢; rwa [List.map_take])
              have hF : ¬ ((0 ≤ pq ∧ pq ≤ nx - 1) ∧ ∀ k (hk : k < q), ps[k] ≠ pq) → c = false := fun hn => by
                cases c with
                | false => rfl
                | true => exact absurd (by rw [hpq]; exact HC.out.1 rfl q hqt) hn
              have HF := Lib.hid hF
              have hin : ∀ m, m ∈ ps.take q ↔ ∃ k, ∃ (hk : k < q), ps[k] = m := fun m => by
                rw [List.mem_take_iff_getElem]
                exact ⟨fun ⟨i, hi, h⟩ => ⟨i, by omega, h⟩, fun ⟨i, hi, h⟩ => ⟨i, by omega, h⟩⟩
              have HI := Lib.hid (hin pq)
              have hN : (0 ≤ pq ∧ pq ≤ nx - 1) → (∀ k (hk : k < q), ps[k] ≠ pq) → ∀ i (hi : i < ps.length), i < q + 1 → (0 ≤ ps[i] ∧ ps[i] ≤ nx - 1) ∧ ∀ k (hk : k < i), ps[k] ≠ ps[i] := fun ha hb i hi hiq => by
                by_cases h : i < q
                · exact hq2 i hi h
                · obtain rfl : i = q := by omega
                  rw [← hpq]
                  exact ⟨ha, hb⟩
              have HN := Lib.hid hN
              have hl := List.length_take (i := q) (l := ps)
              rw [Nat.min_eq_left (by omega)] at hl
              have HL := Lib.hid hl
              clear hc3 hq2 hpq hF hin hN hl HP1 HC
              by_cases v1 : 0 ≤ pq
              · by_cases v2 : pq < nx
                · by_cases v3 : pq ∈ ps.take q
                  · have H : Hid (c = false) := Lib.hid (HF.out fun h => by obtain ⟨k, hk, h2⟩ := HI.out.1 v3; exact h.2 k hk h2)
                    have cC := fun W hW => contains_any true (some ⟨b3, off3, none⟩) uc w.heap.size q pq (ps.take q) W HL.out hW (by omega) (iff_of_true rfl v3)
                    clear HN HI HF v3
                    go_wp2_with (go_at_call 59; (with_reducible refine (cC _ HT.out).mono ?_); rintro e wi ⟨rfl, rfl⟩)
                    go_ret
                    exact ⟨ret_bool H.out.symm, hbw⟩
                  · have H := Lib.hid (HN.out ⟨v1, by omega⟩ fun k hk h => v3 (HI.out.2 ⟨k, hk, h⟩))
                    have cC := fun W hW => contains_any false (some ⟨b3, off3, none⟩) uc w.heap.size q pq (ps.take q) W HL.out hW (by omega) (iff_of_false Bool.false_ne_true v3)
                    clear HN HI HF v3
                    go_wp2_with (go_at_call 59; (with_reducible refine (cC _ HT.out).mono ?_); rintro e wi ⟨rfl, rfl⟩)
                    go_round
                    case rel => exact ⟨q + 1, by omega, by go_num, H.out⟩
                    case measure => simp [RowKit.intOf]; omega
                · have H : Hid (c = false) := Lib.hid (HF.out fun h => by omega)
                  clear HN HI HF
                  go_wp2_with fail
                  go_ret
                  exact ⟨ret_bool H.out.symm, hbw⟩
              · have H : Hid (c = false) := Lib.hid (HF.out fun h => by omega)
                clear HN HI HF
                go_wp2_with fail
                go_ret
                exact ⟨ret_bool H.out.symm, hbw⟩
            · have H : Hid (c = true) := Lib.hid (HC.out.2 fun i hi => hq2 i hi (by omega))
              clear hq2
              go_wp2_with fail
              go_ret
              exact ⟨ret_bool H.out.symm, hbw⟩
        · obtain rfl : c = false := by
            cases c with
            | false => rfl
            | true =>
              obtain ⟨q0, q1, q2, -⟩ := HC.out.1 rfl
              exact absurd (by omega) y3
          clear HC
          have z0 : ((ps.length : Int) != d + 1) = false := by rw [y0]; exact bne_self_eq_false _
          replace y0 := Lib.hid y0
          have c3 := fun W => isNum_at false rt W (iff_of_false Bool.false_ne_true y3)
          go_wp2_with (go_at_call 58; (with_reducible refine (c3 _).mono ?_); rintro e wi ⟨rfl, rfl⟩)
          go_ret
          exact ⟨rfl, hbw⟩
      · obtain rfl : c = false := by
          cases c with
          | false => rfl
          | true =>
            obtain ⟨q0, q1, q2, -⟩ := HC.out.1 rfl
            exact absurd (by omega) y2
        clear HC
        have z0 : ((ps.length : Int) != d + 1) = false := by rw [y0]; exact bne_self_eq_false _
        replace y0 := Lib.hid y0
        go_wp2_with fail
        go_ret
        exact ⟨rfl, hbw⟩
    · obtain rfl : c = false := by
        cases c with
        | false => rfl
        | true =>
          obtain ⟨q0, q1, q2, -⟩ := HC.out.1 rfl
          exact absurd (by omega) y1
      clear HC
      have z0 : ((ps.length : Int) != d + 1) = false := by rw [y0]; exact bne_self_eq_false _
      replace y0 := Lib.hid y0
      go_wp2_with fail
      go_ret
      exact ⟨rfl, hbw⟩
  · obtain rfl : c = false := by
      cases c with
      | false => rfl
      | true =>
        obtain ⟨q0, q1, q2, -⟩ := HC.out.1 rfl
        exact absurd (by omega) y0
    clear HC
    have z0 : ((ps.length : Int) != d + 1) = true := bne_iff_ne.2 y0
    replace y0 := Lib.hid y0
    go_wp2_with fail
    go_ret
    exact ⟨rfl, hbw⟩
theorem homeFits_any (c : Bool) (z d s l a : Int) (u : HomR) (w : World) (ho : Ok z d s l a) (hu : PIn w w.heap.size u) (hc : c = true ↔ HomeOk d s u.d) :
    Calls Tryd.prog 40 #[.agg #[.int .i64 z, .int .i64 d, .int .i64 s, .int .i64 l, .int .i64 a], .agg #[.slice u.A u.ps.length u.c, .int .i64 u.nx, .int .i64 u.rt]] w fun e w' => e = .returned (.bool c) ∧ Below w.heap.size w w' :=
  homeFits_go c z d s l a u.A u.c u.ps u.nx u.rt w ho hu hc
end Go.Proofs.YtkpbfhjpmhgmoaaDoor.anc
