/-
  The laws SumMix and SumBurst, walked: each returns true for every input. No condition.
-/
import Derived.Test.YtehbecpijomhcaaSumCutLaw
import Derived.Test.YtehbecpijomhcaaSumD
namespace Go.Proofs.Ytehbecpijomhcaa.crc
open Go.RowKit Go.Lib

theorem mix_out (A A' A'' : Option Addr) (c c' c'' m m' m'' : Nat) (w : World) (h : 400 < m ∨ m' ≠ m ∨ m'' ≠ m) :
    Calls Try.prog 7 #[.slice A m c, .slice A' m' c', .slice A'' m'' c''] w fun e w' => e = .returned (.bool true) ∧ Below w.heap.size w w' := by
  by_cases h1 : 400 < m
  · have hi : (400 : Int) < (m : Int) := by omega
    clear h
    go_enter Try.func7, Try.ntmps7
    go_wp2
    go_ret
    exact ⟨rfl, Below.refl _ _⟩
  · have hi : ¬ (400 : Int) < (m : Int) := by omega
    by_cases h2 : m' = m
    · subst h2
      have h3 : m'' ≠ m' := by omega
      have n1 : ((m'' : Int) != (m' : Int)) = true := bne_iff_ne.2 (by omega)
      have n2 : ((m'' : Int) == (m' : Int)) = false := beq_eq_false_iff_ne.2 (by omega)
      have n3 : (m'' != m') = true := bne_iff_ne.2 h3
      have n4 : (m'' == m') = false := beq_eq_false_iff_ne.2 h3
      clear h
      go_enter Try.func7, Try.ntmps7
      go_wp2
      go_ret
      exact ⟨rfl, Below.refl _ _⟩
    · have n1 : ((m' : Int) != (m : Int)) = true := bne_iff_ne.2 (by omega)
      have n2 : ((m' : Int) == (m : Int)) = false := beq_eq_false_iff_ne.2 (by omega)
      have n3 : (m' != m) = true := bne_iff_ne.2 h2
      have n4 : (m' == m) = false := beq_eq_false_iff_ne.2 h2
      clear h
      go_enter Try.func7, Try.ntmps7
      go_wp2
      go_ret
      exact ⟨rfl, Below.refl _ _⟩

set_option maxHeartbeats 1000000 in
theorem mix_go (A A' A'' : Option Addr) (c c' c'' n : Nat) (a b d : List UInt8) (w : World) (ha : a.length = n) (hb : b.length = n) (hd : d.length = n) (hn : n ≤ 400) (hA : Sl w w.heap.size A a) (hB : Sl w w.heap.size A' b) (hD : Sl w w.heap.size A'' d) :
    Calls Try.prog 7 #[.slice A n c, .slice A' n c', .slice A'' n c''] w fun e w' => e = .returned (.bool true) ∧ Below w.heap.size w w' := by
  have hi : ¬ (400 : Int) < (n : Int) := by omega
  have hz : (List.zipWith (· ^^^ ·) a b).length = n := by rw [List.length_zipWith]; omega
  have hz2 : (List.zipWith (· ^^^ ·) (List.zipWith (· ^^^ ·) a b) d).length = n := by rw [List.length_zipWith]; omega
  have c1 : Calls Try.prog 20 #[.slice A n c, .slice A' n c'] w fun e w' => One w.heap.size (List.zipWith (· ^^^ ·) a b) e w' ∧ Below w.heap.size w w' := by
    have := ref_two A A' c c' _ _ a b w (ha.trans hb.symm) hA hB (Nat.le_refl _) (Nat.le_refl _) (by omega)
    rwa [ha] at this
  have c2 : ∀ (W : World) (X : Option Addr) (x : Nat), Below w.heap.size w W → Sl W W.heap.size X (List.zipWith (· ^^^ ·) a b) → Calls Try.prog 20 #[.slice X n x, .slice A'' n c''] W fun e w' => One W.heap.size (List.zipWith (· ^^^ ·) (List.zipWith (· ^^^ ·) a b) d) e w' ∧ Below W.heap.size W w' := fun W X x hw hs => by
    have := ref_two X A'' x c'' _ _ (List.zipWith (· ^^^ ·) a b) d W (hz.trans hd.symm) hs (hD.below hw) (Nat.le_refl _) hw.size (by omega)
    rwa [hz] at this
  have c3 : ∀ (W : World) (B : Nat) (X : Option Addr) (x : Nat), Sl W B X (List.zipWith (· ^^^ ·) (List.zipWith (· ^^^ ·) a b) d) → Calls Try.prog 15 #[.slice X n x] W fun e w' => e = .returned (.int .i64 ((sum a ^^^ sum b ^^^ sum d : Nat) : Int)) ∧ W = w' := fun W B X x hs => by
    have := of_any X x B _ W hs (by rw [hz2]; unfold maxLen; omega)
    rwa [hz2, sum_mix a b d (ha.trans hb.symm) (ha.trans hd.symm)] at this
  have cA : ∀ W, Below w.heap.size w W → Calls Try.prog 15 #[.slice A n c] W fun e w' => e = .returned (.int .i64 (sum a)) ∧ W = w' := fun W hw => by
    have := of_any A c _ a W (hA.below hw) (by unfold maxLen; omega)
    rwa [ha] at this
  have cB : ∀ W, Below w.heap.size w W → Calls Try.prog 15 #[.slice A' n c'] W fun e w' => e = .returned (.int .i64 (sum b)) ∧ W = w' := fun W hw => by
    have := of_any A' c' _ b W (hB.below hw) (by unfold maxLen; omega)
    rwa [hb] at this
  have cD : ∀ W, Below w.heap.size w W → Calls Try.prog 15 #[.slice A'' n c''] W fun e w' => e = .returned (.int .i64 (sum d)) ∧ W = w' := fun W hw => by
    have := of_any A'' c'' _ d W (hD.below hw) (by unfold maxLen; omega)
    rwa [hd] at this
  have hx := sum_lt a
  have hy := sum_lt b
  have hv := sum_lt d
  generalize List.zipWith (· ^^^ ·) (List.zipWith (· ^^^ ·) a b) d = z2 at *
  generalize List.zipWith (· ^^^ ·) a b = z1 at *
  generalize sum a = x at *
  generalize sum b = y at *
  generalize sum d = v at *
  clear ha hb hd hA hB hD
  have hxy := xor_lt hx hy
  have e1 : bits .xor .i64 (x : Int) (y : Int) = ((x ^^^ y : Nat) : Int) := bits_xor_i64 x y (by omega) (by omega)
  have e2 : bits .xor .i64 ((x ^^^ y : Nat) : Int) (v : Int) = ((x ^^^ y ^^^ v : Nat) : Int) := bits_xor_i64 (x ^^^ y) v (by omega) (by omega)
  clear hx hy hv hxy
  have HZ := Lib.hid hz
  have HY := Lib.hid hz2
  clear hz hz2
  go_enter Try.func7, Try.ntmps7
  go_wp2_with (first
    | (go_at_call 20
       (with_reducible refine c1.mono ?_)
       rintro e w1 ⟨⟨v1, rfl, hown1⟩, hb1⟩
       obtain ⟨X1, k1, hv1, -, -, hs1, -⟩ := hown1.form
       rw [HZ.out] at hv1
       subst hv1)
    | (go_at_call 20
       (with_reducible refine (c2 _ _ _ hb1 hs1).mono ?_)
       rintro e w2 ⟨⟨v2, rfl, hown2⟩, hb2⟩
       obtain ⟨X2, k2, hv2, -, -, hs2, -⟩ := hown2.form
       rw [HY.out] at hv2
       subst hv2
       have hb3 := bt hb1 hb2)
    | (go_at_call 15; (with_reducible refine (c3 _ _ _ _ hs2).mono ?_); rintro e w4 ⟨rfl, rfl⟩)
    | (go_at_call 15; (with_reducible refine (cA _ hb3).mono ?_); rintro e w4 ⟨rfl, rfl⟩)
    | (go_at_call 15; (with_reducible refine (cB _ hb3).mono ?_); rintro e w4 ⟨rfl, rfl⟩)
    | (go_at_call 15; (with_reducible refine (cD _ hb3).mono ?_); rintro e w4 ⟨rfl, rfl⟩)
    | (go_at_call 18; (with_reducible refine (wakes_any _).mono ?_); rintro e w5 ⟨rfl, hb5⟩))
  go_ret
  exact ⟨rfl, bt hb3 hb5⟩

theorem sumMix_law (A A' A'' : Option Addr) (c c' c'' : Nat) (a b d : List UInt8) (w : World) (hA : Sl w w.heap.size A a) (hB : Sl w w.heap.size A' b) (hD : Sl w w.heap.size A'' d) :
    Calls Try.prog 7 #[.slice A a.length c, .slice A' b.length c', .slice A'' d.length c''] w fun e w' => e = .returned (.bool true) ∧ Below w.heap.size w w' := by
  by_cases h : 400 < a.length ∨ b.length ≠ a.length ∨ d.length ≠ a.length
  · exact mix_out A A' A'' c c' c'' _ _ _ w h
  · have hb : b.length = a.length := by omega
    have hd : d.length = a.length := by omega
    rw [hb, hd]
    exact mix_go A A' A'' c c' c'' a.length a b d w rfl hb hd (by omega) hA hB hD

theorem burst_out (A A' : Option Addr) (c c' n m : Nat) (at' bits' : Int) (w : World) (h : n = 0 ∨ 400 < n ∨ 100 < m) :
    Calls Try.prog 5 #[.slice A n c, .slice A' m c', .int .i64 at', .int .i64 bits'] w fun e w' => e = .returned (.bool true) ∧ Below w.heap.size w w' := by
  by_cases h0 : n = 0
  · subst h0
    clear h
    go_enter Try.func5, Try.ntmps5
    go_wp2
    go_ret
    exact ⟨rfl, Below.refl _ _⟩
  · have n0 : ((n : Int) == 0) = false := beq_eq_false_iff_ne.2 (by omega)
    by_cases h1 : 400 < n
    · have hi : (400 : Int) < (n : Int) := by omega
      clear h
      go_enter Try.func5, Try.ntmps5
      go_wp2
      go_ret
      exact ⟨rfl, Below.refl _ _⟩
    · have hi : ¬ (400 : Int) < (n : Int) := by omega
      have hj : (100 : Int) < (m : Int) := by omega
      clear h
      go_enter Try.func5, Try.ntmps5
      go_wp2
      go_ret
      exact ⟨rfl, Below.refl _ _⟩

set_option maxHeartbeats 1000000 in
theorem burst_go (A A' : Option Addr) (c c' n m : Nat) (l d : List UInt8) (at' bits' : Int) (p X : Nat) (w : World) (hl : l.length = n) (hd : d.length = m) (h0 : 0 < n) (h1 : n ≤ 400) (h2 : m ≤ 100) (hA : Sl w w.heap.size A l) (hD : Sl w w.heap.size A' d)
    (hp : p < 8 * n) (hX : X < 4294967296) (hP : (IntKind.u64.wrap at').tmod (8 * (n : Int)) = (p : Int)) (hQ : (IntKind.u64.wrap bits').tmod 4294967296 = (X : Int)) :
    Calls Try.prog 5 #[.slice A n c, .slice A' m c', .int .i64 at', .int .i64 bits'] w fun e w' => e = .returned (.bool true) ∧ Below w.heap.size w w' := by
  have n0 : ((n : Int) == 0) = false := beq_eq_false_iff_ne.2 (by omega)
  have i1 : ¬ (400 : Int) < (n : Int) := by omega
  have i2 : ¬ (100 : Int) < (m : Int) := by omega
  have i3 : (0 : Int) < (n : Int) := by omega
  have i4 : (0 : Int) < 8 * (n : Int) := by omega
  have z0 : (8 * (n : Int) == 0) = false := beq_eq_false_iff_ne.2 (by omega)
  have cF : Calls Try.prog 19 #[.slice A n c, .int .i64 p, .int .i64 X] w fun e w' => FlipAns w.heap.size l p (oddOf X) e w' ∧ Below w.heap.size w w' := by
    have := ref_flip A c _ l p X w hA (by omega) (by omega) (by omega) hX
    rwa [hl] at this
  have cA : ∀ W, Below w.heap.size w W → Calls Try.prog 15 #[.slice A n c] W fun e w' => e = .returned (.int .i64 (sum l)) ∧ W = w' := fun W hw => by
    have := of_any A c _ l W (hA.below hw) (by unfold maxLen; omega)
    rwa [hl] at this
  have cM : ∀ W (s : Nat), s < 4294967296 → Below w.heap.size w W → Calls Try.prog 11 #[.int .i64 s, .slice A' m c'] W fun e w' => e = .returned (.tuple #[.int .i64 (more s d), .int .i64 0]) ∧ W = w' := fun W s hs hw => by
    have := more_any s A' c' _ d W hs (hD.below hw) (by unfold maxLen; omega)
    rwa [hd] at this
  have cO : ∀ W (X1 : Option Addr) (k1 B : Nat) (out : List UInt8), out.length = n → Sl W B X1 out → Calls Try.prog 15 #[.slice X1 n k1] W fun e w' => e = .returned (.int .i64 (sum out)) ∧ W = w' := fun W X1 k1 B out ho hs => by
    have := of_any X1 k1 B out W hs (by unfold maxLen; omega)
    rwa [ho] at this
  have key : ∀ out, TurnedAll l out p (oddOf X) → Hid (out.length = n) ∧ sum l ≠ sum out ∧ more (sum l) d ≠ more (sum out) d := fun out ho => by
    have hs := turned_sum ho (by omega) (oddOf_lt hX) (oddOf_odd X)
    exact ⟨ho.1.trans hl, hs, more_of (sum_lt l) (sum_lt out) d hs⟩
  have sl := sum_lt l
  clear hl hd hA hD
  go_enter Try.func5, Try.ntmps5
  go_wp2_with (first
    | (go_at_call 19
       (with_reducible refine cF.mono ?_)
       rintro e w1 ⟨⟨out, hT, v, rfl, hown⟩, hb1⟩
       obtain ⟨HO, hne, hmo⟩ := key out hT
       obtain ⟨X1, k1, hv, -, -, hs1, -⟩ := hown.form
       rw [HO.out] at hv
       subst hv
       have so := sum_lt out
       have n1 : ((sum l : Int) != (sum out : Int)) = true := bne_iff_ne.2 (by omega)
       have n2 : ((sum l : Int) == (sum out : Int)) = false := beq_eq_false_iff_ne.2 (by omega)
       have n3 : ((more (sum l) d : Int) != (more (sum out) d : Int)) = true := bne_iff_ne.2 (by omega)
       have n4 : ((more (sum l) d : Int) == (more (sum out) d : Int)) = false := beq_eq_false_iff_ne.2 (by omega)
       have n5 : (sum l == sum out) = false := beq_eq_false_iff_ne.2 hne
       have n6 : (more (sum l) d == more (sum out) d) = false := beq_eq_false_iff_ne.2 hmo
       clear key cF hT hown)
    | (go_at_call 15; (with_reducible refine (cA _ hb1).mono ?_); rintro e w4 ⟨rfl, rfl⟩)
    | (go_at_call 11; (with_reducible refine (cM _ _ sl hb1).mono ?_); rintro e w4 ⟨rfl, rfl⟩)
    | (go_at_call 11; (with_reducible refine (cM _ _ so hb1).mono ?_); rintro e w4 ⟨rfl, rfl⟩)
    | (go_at_call 15; (with_reducible refine (cO _ _ _ _ out HO.out hs1).mono ?_); rintro e w4 ⟨rfl, rfl⟩)
    | (go_at_call 18; (with_reducible refine (wakes_any _).mono ?_); rintro e w5 ⟨rfl, hb5⟩))
  go_ret
  exact ⟨rfl, bt hb1 hb5⟩

theorem sumBurst_law (A A' : Option Addr) (c c' : Nat) (l d : List UInt8) (at' bits' : Int) (w : World) (hA : Sl w w.heap.size A l) (hD : Sl w w.heap.size A' d) :
    Calls Try.prog 5 #[.slice A l.length c, .slice A' d.length c', .int .i64 at', .int .i64 bits'] w fun e w' => e = .returned (.bool true) ∧ Below w.heap.size w w' := by
  by_cases h : l.length = 0 ∨ 400 < l.length ∨ 100 < d.length
  · exact burst_out A A' c c' _ _ at' bits' w h
  · obtain ⟨p, hp, hP⟩ := wrap_mod at' (8 * l.length) (by omega)
    obtain ⟨X, hX, hQ⟩ := wrap_mod bits' 4294967296 (by omega)
    rw [show ((8 * l.length : Nat) : Int) = 8 * (l.length : Int) by omega] at hP
    exact burst_go A A' c c' _ _ l d at' bits' p X w rfl rfl (by omega) (by omega) (by omega) hA hD hp hX hP hQ
end Go.Proofs.Ytehbecpijomhcaa.crc
