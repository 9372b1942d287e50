/-
  The laws XorLost and XorTwos, walked: each returns true for every input. No condition.
-/
import Derived.Test.YtgpgjbdjjanhaaaXorC
namespace Go.Proofs.Ytgpgjbdjjanhaaa.par
open Go.RowKit Go.Lib

/-- 'All' of a list just laid. -/
theorem all_lit (n m : Nat) (cs : Array Value) (t : TypeId) (rs : List Row) (w : World) (hcs : cs.toList = vals rs) (hm : rs.length = m) (hR : Rws w w.heap.size rs) (hn : n ≤ 96) (hr : m ≤ 1048576) (hl : AllLen n (lists rs)) :
    Calls Try.prog 12 #[.slice (some ⟨w.heap.size, 0, none⟩) m m, .int .i64 n] (w.alloc (.cells cs t)) fun e w' => Ans w.heap.size (xall n (lists rs)) e w' ∧ Below w.heap.size w w' := by
  subst hm
  refine (all_ok n (some ⟨w.heap.size, 0, none⟩) rs.length rs (w.alloc (.cells cs t)) (SlV.of_block (heap_alloc_new _ _) hcs (by simp)) ((hR.below (bl w _)).more (by simp)) hn hr hl).mono ?_
  rintro e w' ⟨h, hb⟩
  exact ⟨Ans.less h (by simp), (bl w _).trans (hb.mono (by simp))⟩
/-- Two that are the same. -/
theorem same_any (n : Nat) (X Y : Option Addr) (k k' : Nat) (l : List UInt8) (w : World) (hn : l.length = n) (hX : Sl w w.heap.size X l) (hY : Sl w w.heap.size Y l) (h : n ≤ 1048576) :
    Calls Try.prog 15 #[.slice X n k, .slice Y n k'] w fun e w' => e = .returned (.bool true) ∧ Below w.heap.size w w' := by
  have := keep_any X Y k k' _ _ l l w hX hY (Nat.le_refl _) (Nat.le_refl _) (by omega)
  rwa [hn, decide_eq_true rfl] at this

theorem lost_out (A A' A'' : Option Addr) (c c' c'' m m' m'' : Nat) (w : World) (h : 96 < m ∨ m' ≠ m ∨ m'' ≠ m) :
    Calls Try.prog 8 #[.slice A m c, .slice A' m' c', .slice A'' m'' c''] w fun e w' => e = .returned (.bool true) ∧ Below w.heap.size w w' := by
  by_cases h2 : m' = m
  · subst h2
    have p1 : ((m' : Int) != (m' : Int)) = false := bne_self_eq_false _
    by_cases h3 : m'' = m'
    · subst h3
      have hi : (96 : Int) < (m'' : Int) := by omega
      by_cases h4 : 200 < m''
      · have hj : (200 : Int) < (m'' : Int) := by omega
        clear h
        go_enter Try.func8, Try.ntmps8
        go_wp2
        go_ret
        exact ⟨rfl, Below.refl _ _⟩
      · have hj : ¬ (200 : Int) < (m'' : Int) := by omega
        clear h
        go_enter Try.func8, Try.ntmps8
        go_wp2
        go_ret
        exact ⟨rfl, Below.refl _ _⟩
    · have n1 : ((m'' : Int) != (m' : Int)) = true := bne_iff_ne.2 (by omega)
      have n2 : ((m'' : Int) == (m' : Int)) = false := beq_eq_false_iff_ne.2 (by omega)
      have n3 : (m'' != m') = true := bne_iff_ne.2 h3
      have n4 : (m'' == m') = false := beq_eq_false_iff_ne.2 h3
      clear h
      go_enter Try.func8, Try.ntmps8
      go_wp2
      all_goals
        go_ret
        exact ⟨rfl, Below.refl _ _⟩
  · have n1 : ((m' : Int) != (m : Int)) = true := bne_iff_ne.2 (by omega)
    have n2 : ((m' : Int) == (m : Int)) = false := beq_eq_false_iff_ne.2 (by omega)
    have n3 : (m' != m) = true := bne_iff_ne.2 h2
    have n4 : (m' == m) = false := beq_eq_false_iff_ne.2 h2
    clear h
    go_enter Try.func8, Try.ntmps8
    go_wp2
    all_goals
      go_ret
      exact ⟨rfl, Below.refl _ _⟩

set_option maxHeartbeats 1000000 in
theorem lost_go (A A' A'' : Option Addr) (c c' c'' n : Nat) (a b x : List UInt8) (w : World) (ha : a.length = n) (hb : b.length = n) (hx : x.length = n) (hn : n ≤ 96) (hA : Sl w w.heap.size A a) (hB : Sl w w.heap.size A' b) (hX : Sl w w.heap.size A'' x) :
    Calls Try.prog 8 #[.slice A n c, .slice A' n c', .slice A'' n c''] w fun e w' => e = .returned (.bool true) ∧ Below w.heap.size w w' := by
  have i1 : ¬ (96 : Int) < (n : Int) := by omega
  have i2 : ¬ (200 : Int) < (n : Int) := by omega
  have HA : Hid ((zx a x).length = n) := zx_length ha hx
  have HB : Hid ((zx b x).length = n) := zx_length hb hx
  have HP : Hid ((zx a b).length = n) := zx_length ha hb
  have c1 := two_ok A A'' c c'' n a x w ha hx hA hX (by omega)
  have c2 : ∀ W, Below w.heap.size w W → _ := fun W hW => two_ok A' A'' c' c'' n b x W hb hx ((hB.below hW).more hW.size) ((hX.below hW).more hW.size) (by omega)
  have c3 : ∀ (t : TypeId) (W : World), Below w.heap.size w W → Calls Try.prog 12 #[.slice (some ⟨W.heap.size, 0, none⟩) 2 2, .int .i64 n] (W.alloc (.cells #[.slice A n c, .slice A' n c'] t)) fun e w' => Ans W.heap.size (zx a b) e w' ∧ Below W.heap.size W w' := fun t W hW => by
    have := all_lit n 2 #[.slice A n c, .slice A' n c'] t [⟨A, c, a⟩, ⟨A', c', b⟩] W (by simp [vals, Row.v, ha, hb]) rfl (((Rws.one hA).append (Rws.one hB)).below hW |>.more hW.size) hn (by omega) (AllLen.cons ha (AllLen.cons hb (AllLen.nil n)))
    rwa [show xall n (lists [⟨A, c, a⟩, ⟨A', c', b⟩]) = zx a b from xall_two ha] at this
  have c4 : ∀ (t : TypeId) (W : World) (X Y : Option Addr) (k k' : Nat), Sl W W.heap.size X (zx a x) → Sl W W.heap.size Y (zx b x) → Calls Try.prog 12 #[.slice (some ⟨W.heap.size, 0, none⟩) 2 2, .int .i64 n] (W.alloc (.cells #[.slice X n k, .slice Y n k'] t)) fun e w' => Ans W.heap.size (zx a b) e w' ∧ Below W.heap.size W w' := fun t W X Y k k' hX hY => by
    have := all_lit n 2 #[.slice X n k, .slice Y n k'] t [⟨X, k, zx a x⟩, ⟨Y, k', zx b x⟩] W (by simp [vals, Row.v, HA.out, HB.out]) rfl ((Rws.one hX).append (Rws.one hY)) hn (by omega) (AllLen.cons HA.out (AllLen.cons HB.out (AllLen.nil n)))
    rwa [show xall n (lists [⟨X, k, zx a x⟩, ⟨Y, k', zx b x⟩]) = zx a b from (xall_two HA.out).trans (by rw [zx_comm b x, ← zx_assoc, zx_twice ha hx])] at this
  have c5 := fun (W : World) (X Y : Option Addr) (k k' : Nat) (hX : Sl W W.heap.size X (zx a b)) (hY : Sl W W.heap.size Y (zx a b)) => same_any n X Y k k' (zx a b) W HP.out hX hY (by omega)
  generalize zx a x = z1 at *
  generalize zx b x = z2 at *
  generalize zx a b = z at *
  clear ha hb hx hA hB hX
  go_enter Try.func8, Try.ntmps8
  go_wp2_with (first
    | (go_at_call 11; (with_reducible refine c1.mono ?_); rintro e w1 ⟨⟨v1, rfl, hown1⟩, hb1⟩; obtain ⟨X1, k1, hv1, -, -, hs1, -⟩ := hown1.form; rw [HA.out] at hv1; subst hv1)
    | (go_at_call 11; (with_reducible refine (c2 _ hb1).mono ?_); rintro e w2 ⟨⟨v2, rfl, hown2⟩, hb2⟩; obtain ⟨X2, k2, hv2, -, -, hs2, -⟩ := hown2.form; rw [HB.out] at hv2; subst hv2; have hb12 := bt hb1 hb2)
    | (go_at_call 12; (with_reducible refine (c3 _ _ hb12).mono ?_); rintro e w3 ⟨⟨v3, rfl, hown3⟩, hb3⟩; obtain ⟨X3, k3, hv3, -, -, hs3, -⟩ := hown3.form; rw [HP.out] at hv3; subst hv3; have hb13 := bt hb12 hb3; have hs13 := (hs1.next hb2).next hb3; have hs23 := hs2.next hb3)
    | (go_at_call 12; (with_reducible refine (c4 _ _ _ _ _ _ hs13 hs23).mono ?_); rintro e w4 ⟨⟨v4, rfl, hown4⟩, hb4⟩; obtain ⟨X4, k4, hv4, -, -, hs4, -⟩ := hown4.form; rw [HP.out] at hv4; subst hv4; have hb14 := bt hb13 hb4; have hs34 := hs3.next hb4)
    | (go_at_call 15; (with_reducible refine (c5 _ _ _ _ _ hs34 hs4).mono ?_); rintro e w5 ⟨rfl, hb5⟩; have hb15 := bt hb14 hb5)
    | (go_at_call 21; (with_reducible refine (wakes_any _).mono ?_); rintro e w6 ⟨rfl, hb6⟩))
  go_ret
  exact ⟨rfl, bt hb15 hb6⟩
theorem xorLost_law (A A' A'' : Option Addr) (c c' c'' : Nat) (a b x : List UInt8) (w : World) (hA : Sl w w.heap.size A a) (hB : Sl w w.heap.size A' b) (hX : Sl w w.heap.size A'' x) :
    Calls Try.prog 8 #[.slice A a.length c, .slice A' b.length c', .slice A'' x.length c''] w fun e w' => e = .returned (.bool true) ∧ Below w.heap.size w w' := by
  by_cases h : 96 < a.length ∨ b.length ≠ a.length ∨ x.length ≠ a.length
  · exact lost_out A A' A'' c c' c'' _ _ _ w h
  · have hb : b.length = a.length := by omega
    have hx : x.length = a.length := by omega
    rw [hb, hx]
    exact lost_go A A' A'' c c' c'' a.length a b x w rfl hb hx (by omega) hA hB hX
end Go.Proofs.Ytgpgjbdjjanhaaa.par
