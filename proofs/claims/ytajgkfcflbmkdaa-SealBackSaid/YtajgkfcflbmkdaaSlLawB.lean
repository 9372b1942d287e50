/-
  The law SealBack, walked: it returns true for any two sectors and any bytes. No condition.
-/
import Derived.Test.YtajgkfcflbmkdaaSlLawA
namespace Go.Proofs.Ytajgkfcflbmkdaa.sel
open Go.RowKit Go.Lib
open Go.Proofs.Ytajgkfcflbmkdaa.crc (TurnedAll)

theorem enc_same {a s a' s' : Nat} {l l' : List UInt8} (ha : a < 65536) (hs : s < 4294967296) (hl : l.length ≤ 96) (ha' : a' < 65536) (hs' : s' < 4294967296) (hl' : l'.length ≤ 96) : decide (enc a s l = enc a' s' l') = decide ((a : Int) = a' ∧ (s : Int) = s' ∧ l = l') := by
  refine decide_eq_decide.2 ⟨fun h => ?_, fun h => ?_⟩
  · obtain ⟨rfl, rfl, rfl⟩ := enc_inj ha hs hl ha' hs' hl' h
    exact ⟨rfl, rfl, rfl⟩
  · obtain ⟨h1, h2, rfl⟩ := h
    obtain rfl : a = a' := by omega
    obtain rfl : s = s' := by omega
    rfl
theorem sector_lies (a s a' s' : Int) (n n' x y : Nat) (X Y : Option Addr) (l l' : List UInt8) (W : World) (hn : l.length = n) (hn' : l'.length = n') (hl : n ≤ 1048576) (h1 : Lies W X x l) (h2 : Lies W Y y l') :
    Calls Try.prog 17 #[.agg #[.int .i64 a, .int .i64 s, .slice X n x], .agg #[.int .i64 a', .int .i64 s', .slice Y n' y]] W fun e w' => e = .returned (.bool (decide (a = a' ∧ s = s' ∧ l = l'))) ∧ Below W.heap.size W w' :=
  sector_any a s a' s' X Y x y n n' l l' W hn hn' h1.2.2 h2.2.2 hl
theorem back_long (a s a' s' : Int) (A A' B : Option Addr) (n c n' c' m d : Nat) (w : World) (h : 300 < n ∨ 300 < n' ∨ 300 < m) :
    Calls Try.prog 4 #[.agg #[.int .i64 a, .int .i64 s, .slice A n c], .agg #[.int .i64 a', .int .i64 s', .slice A' n' c'], .slice B m d] w fun e w' => e = .returned (.bool true) ∧ Below w.heap.size w w' := by
  by_cases h1 : 300 < n
  · have i1 : (300 : Int) < (n : Int) := by omega
    clear h h1
    go_enter Try.func4, Try.ntmps4
    go_wp2
    go_ret
    exact ⟨rfl, ((Below.refl _ _).alloc (Nat.le_refl _) _).alloc (by simp) _⟩
  · have i1 : ¬ (300 : Int) < (n : Int) := by omega
    by_cases h2 : 300 < n'
    · have i2 : (300 : Int) < (n' : Int) := by omega
      clear h h1 h2
      go_enter Try.func4, Try.ntmps4
      go_wp2
      go_ret
      exact ⟨rfl, ((Below.refl _ _).alloc (Nat.le_refl _) _).alloc (by simp) _⟩
    · have i2 : ¬ (300 : Int) < (n' : Int) := by omega
      have i3 : (300 : Int) < (m : Int) := by omega
      clear h h1 h2
      go_enter Try.func4, Try.ntmps4
      go_wp2
      go_ret
      exact ⟨rfl, ((Below.refl _ _).alloc (Nat.le_refl _) _).alloc (by simp) _⟩
set_option maxHeartbeats 2000000 in
theorem back_000 (a s a' s' : Int) (A A' B : Option Addr) (n c n' c' m d : Nat) (l l' b : List UInt8) (w : World) (hln : l.length = n) (hln' : l'.length = n') (hm : b.length = m) (h : n ≤ 300) (h' : n' ≤ 300) (h'' : m ≤ 300) (hcl : n ≤ c) (hcm : c ≤ maxLen) (hA : Sl w w.heap.size A l) (hA' : Sl w w.heap.size A' l') (hB : Lies w B d b) (z : Nat) (hM : made a s l = ⟨z, []⟩) (hz : z ≠ 0) (z' : Nat) (hM' : made a' s' l' = ⟨z', []⟩) (hz' : z' ≠ 0) (y : Nat) (hG : opened b = no y) (hy : y ≠ 0) :
    Calls Try.prog 4 #[.agg #[.int .i64 a, .int .i64 s, .slice A n c], .agg #[.int .i64 a', .int .i64 s', .slice A' n' c'], .slice B m d] w fun e w' => e = .returned (.bool true) ∧ Below w.heap.size w w' := by
  have i1 : ¬ (300 : Int) < (n : Int) := by omega
  have i2 : ¬ (300 : Int) < (n' : Int) := by omega
  have i3 : ¬ (300 : Int) < (m : Int) := by omega
  have hb1 := bl w (.cells #[.int .i64 a, .int .i64 s, .slice A n c] 24)
  have t1 := three_new w (.int .i64 a) (.int .i64 s) (.slice A n c) 24
  have hb2 := bl (w.alloc (.cells #[.int .i64 a, .int .i64 s, .slice A n c] 24)) (.cells #[.int .i64 a', .int .i64 s', .slice A' n' c'] 24)
  have t2 := three_new (w.alloc (.cells #[.int .i64 a, .int .i64 s, .slice A n c] 24)) (.int .i64 a') (.int .i64 s') (.slice A' n' c') 24
  have hb0 := bt hb1 hb2
  have t1' := t1.keep hb2 (by simp)
  rw [show (w.alloc (.cells #[.int .i64 a, .int .i64 s, .slice A n c] 24)).heap.size = w.heap.size + 1 by simp] at t2
  have l1 : w.heap.size < ((w.alloc (.cells #[.int .i64 a, .int .i64 s, .slice A n c] 24)).alloc (.cells #[.int .i64 a', .int .i64 s', .slice A' n' c'] 24)).heap.size := by simp; omega
  have l2 : w.heap.size + 1 < ((w.alloc (.cells #[.int .i64 a, .int .i64 s, .slice A n c] 24)).alloc (.cells #[.int .i64 a', .int .i64 s', .slice A' n' c'] 24)).heap.size := by simp
  clear t1 hb1 hb2
  have hX : ∀ (W : World), Below w.heap.size w W → Lies W A c l := fun W hb => ⟨by rw [hln]; exact hcl, hcm, (hA.below hb).more hb.size⟩
  have HX := Lib.hid hX
  clear hX
  have cA := fun (W : World) (hb : Below w.heap.size w W) => make_at a s A n c l W hln ((hA.below hb).more hb.size)
  have cB := fun (W : World) (hb : Below w.heap.size w W) => make_at a' s' A' n' c' l' W hln' ((hA'.below hb).more hb.size)
  rw [hM] at cA
  rw [hM'] at cB
  simp only [List.length_nil] at cA
  simp only [List.length_nil] at cB
  have cV := fun (W : World) (hb : Below w.heap.size w W) => open_at m d B b W hm ⟨hB.1, hB.2.1, (hB.2.2.below hb).more hb.size⟩
  rw [hG] at cV
  unfold no at cV
  simp only [List.length_nil] at cV
  have HA := Lib.hid cA
  have HB := Lib.hid cB
  have HV := Lib.hid cV
  clear cA cB cV hA hA' hB hM hM' hG hln hln' hm
  have z1 : ((z : Int) == 0) = false := beq_eq_false_iff_ne.2 (by omega)
  have z2 : ((z : Int) != 0) = true := bne_iff_ne.2 (by omega)
  have z3 : (z == 0) = false := beq_eq_false_iff_ne.2 hz
  have z4 : (z != 0) = true := bne_iff_ne.2 hz
  clear hz
  have z1' : ((z' : Int) == 0) = false := beq_eq_false_iff_ne.2 (by omega)
  have z2' : ((z' : Int) != 0) = true := bne_iff_ne.2 (by omega)
  have z3' : (z' == 0) = false := beq_eq_false_iff_ne.2 hz'
  have z4' : (z' != 0) = true := bne_iff_ne.2 hz'
  clear hz'
  have y1 : ((y : Int) == 0) = false := beq_eq_false_iff_ne.2 (by omega)
  have y2 : ((y : Int) != 0) = true := bne_iff_ne.2 (by omega)
  have y3 : (y == 0) = false := beq_eq_false_iff_ne.2 hy
  have y4 : (y != 0) = true := bne_iff_ne.2 hy
  clear hy
  go_enter Try.func4, Try.ntmps4
  go_wp2_with fail
  generalize (w.alloc (.cells #[.int .i64 a, .int .i64 s, .slice A n c] 24)).alloc (.cells #[.int .i64 a', .int .i64 s', .slice A' n' c'] 24) = w0 at *
  go_wp2_with (first
    | (go_at_call 11; (with_reducible refine (HA.out _ hb0).mono ?_); rintro e w1 ⟨⟨X1, x1, rfl, hX1⟩, hc1⟩; obtain ⟨r0, r1, r2, -, -, -⟩ := t2.keep hc1 l2; have hd1 := bt hb0 hc1)
    | (go_at_call 11; (with_reducible refine (HB.out _ hd1).mono ?_); rintro e w2 ⟨⟨X2, x2, rfl, hX2⟩, hc2⟩
       have hc12 := bt hc1 hc2
       have hd2 := bt hd1 hc2
       obtain ⟨p0, p1, p2, -, -, -⟩ := t1'.keep hc12 l1
       obtain ⟨v0, v1, v2, -, -, -⟩ := t2.keep hc12 l2
       clear r0 r1 r2)
    )
  go_quiet (fail)
  have hdz := below_dn hd2 nq
  generalize w2.drewN nq = wz at *
  go_wp2_with (first
    | (go_at_call 12; (with_reducible refine (HV.out _ hdz).mono ?_); rintro e w7 ⟨⟨Y7, y7, rfl, hY7⟩, hc7⟩
       have hc7' := kal hc7 (.cells #[.int .i64 0, .int .i64 0, .slice Y7 0 y7] 24))
    | (go_at_call 17; (with_reducible refine (sector_none _ _ _).mono ?_); rintro e w8 ⟨rfl, hc8⟩; have hd8 := bt hdz (bt hc7' hc8))
    | (go_at_call 19; (with_reducible refine (wk_any _).mono ?_); rintro e w10 ⟨rfl, hc10⟩))
  go_ret
  exact ⟨rfl, bt hd8 hc10⟩
set_option maxHeartbeats 2000000 in
theorem back_001 (a s a' s' : Int) (A A' B : Option Addr) (n c n' c' m d : Nat) (l l' b : List UInt8) (w : World) (hln : l.length = n) (hln' : l'.length = n') (hm : b.length = m) (h : n ≤ 300) (h' : n' ≤ 300) (h'' : m ≤ 300) (hcl : n ≤ c) (hcm : c ≤ maxLen) (hA : Sl w w.heap.size A l) (hA' : Sl w w.heap.size A' l') (hB : Lies w B d b) (z : Nat) (hM : made a s l = ⟨z, []⟩) (hz : z ≠ 0) (z' : Nat) (hM' : made a' s' l' = ⟨z', []⟩) (hz' : z' ≠ 0) (u t : Nat) (p : List UInt8) (k : Nat) (hG : opened b = ⟨0, u, t, p⟩) (hk : p.length = k) (hR : made u t p = ⟨0, b⟩) :
    Calls Try.prog 4 #[.agg #[.int .i64 a, .int .i64 s, .slice A n c], .agg #[.int .i64 a', .int .i64 s', .slice A' n' c'], .slice B m d] w fun e w' => e = .returned (.bool true) ∧ Below w.heap.size w w' := by
  have i1 : ¬ (300 : Int) < (n : Int) := by omega
  have i2 : ¬ (300 : Int) < (n' : Int) := by omega
  have i3 : ¬ (300 : Int) < (m : Int) := by omega
  have hb1 := bl w (.cells #[.int .i64 a, .int .i64 s, .slice A n c] 24)
  have t1 := three_new w (.int .i64 a) (.int .i64 s) (.slice A n c) 24
  have hb2 := bl (w.alloc (.cells #[.int .i64 a, .int .i64 s, .slice A n c] 24)) (.cells #[.int .i64 a', .int .i64 s', .slice A' n' c'] 24)
  have t2 := three_new (w.alloc (.cells #[.int .i64 a, .int .i64 s, .slice A n c] 24)) (.int .i64 a') (.int .i64 s') (.slice A' n' c') 24
  have hb0 := bt hb1 hb2
  have t1' := t1.keep hb2 (by simp)
  rw [show (w.alloc (.cells #[.int .i64 a, .int .i64 s, .slice A n c] 24)).heap.size = w.heap.size + 1 by simp] at t2
  have l1 : w.heap.size < ((w.alloc (.cells #[.int .i64 a, .int .i64 s, .slice A n c] 24)).alloc (.cells #[.int .i64 a', .int .i64 s', .slice A' n' c'] 24)).heap.size := by simp; omega
  have l2 : w.heap.size + 1 < ((w.alloc (.cells #[.int .i64 a, .int .i64 s, .slice A n c] 24)).alloc (.cells #[.int .i64 a', .int .i64 s', .slice A' n' c'] 24)).heap.size := by simp
  clear t1 hb1 hb2
  have hX : ∀ (W : World), Below w.heap.size w W → Lies W A c l := fun W hb => ⟨by rw [hln]; exact hcl, hcm, (hA.below hb).more hb.size⟩
  have HX := Lib.hid hX
  clear hX
  have cA := fun (W : World) (hb : Below w.heap.size w W) => make_at a s A n c l W hln ((hA.below hb).more hb.size)
  have cB := fun (W : World) (hb : Below w.heap.size w W) => make_at a' s' A' n' c' l' W hln' ((hA'.below hb).more hb.size)
  rw [hM] at cA
  rw [hM'] at cB
  simp only [List.length_nil] at cA
  simp only [List.length_nil] at cB
  have cV := fun (W : World) (hb : Below w.heap.size w W) => open_at m d B b W hm ⟨hB.1, hB.2.1, (hB.2.2.below hb).more hb.size⟩
  rw [hG] at cV
  simp only [hk] at cV
  have cR := fun (W : World) (Y : Option Addr) (y : Nat) (h : Lies W Y y p) => make_at u t Y k y p W hk h.2.2
  rw [hR] at cR
  simp only [hm] at cR
  have cK : ∀ (W : World) (X : Option Addr) (x : Nat), Below w.heap.size w W → Lies W X x b → Calls Try.prog 14 #[.slice X m x, .slice B m d] W fun e w' => e = .returned (.bool true) ∧ Below W.heap.size W w' := fun W X x hb h1 => by
    have := bytes_lies m m X B x d b b W hm hm (by omega) h1 ⟨hB.1, hB.2.1, (hB.2.2.below hb).more hb.size⟩
    rwa [decide_eq_true rfl] at this
  have HR := Lib.hid cR
  have HK := Lib.hid cK
  clear cR cK hk
  have HA := Lib.hid cA
  have HB := Lib.hid cB
  have HV := Lib.hid cV
  clear cA cB cV hA hA' hB hM hM' hG hln hln' hm
  have z1 : ((z : Int) == 0) = false := beq_eq_false_iff_ne.2 (by omega)
  have z2 : ((z : Int) != 0) = true := bne_iff_ne.2 (by omega)
  have z3 : (z == 0) = false := beq_eq_false_iff_ne.2 hz
  have z4 : (z != 0) = true := bne_iff_ne.2 hz
  clear hz
  have z1' : ((z' : Int) == 0) = false := beq_eq_false_iff_ne.2 (by omega)
  have z2' : ((z' : Int) != 0) = true := bne_iff_ne.2 (by omega)
  have z3' : (z' == 0) = false := beq_eq_false_iff_ne.2 hz'
  have z4' : (z' != 0) = true := bne_iff_ne.2 hz'
  clear hz'
  clear hR
  go_enter Try.func4, Try.ntmps4
  go_wp2_with fail
  generalize (w.alloc (.cells #[.int .i64 a, .int .i64 s, .slice A n c] 24)).alloc (.cells #[.int .i64 a', .int .i64 s', .slice A' n' c'] 24) = w0 at *
  go_wp2_with (first
    | (go_at_call 11; (with_reducible refine (HA.out _ hb0).mono ?_); rintro e w1 ⟨⟨X1, x1, rfl, hX1⟩, hc1⟩; obtain ⟨r0, r1, r2, -, -, -⟩ := t2.keep hc1 l2; have hd1 := bt hb0 hc1)
    | (go_at_call 11; (with_reducible refine (HB.out _ hd1).mono ?_); rintro e w2 ⟨⟨X2, x2, rfl, hX2⟩, hc2⟩
       have hc12 := bt hc1 hc2
       have hd2 := bt hd1 hc2
       obtain ⟨p0, p1, p2, -, -, -⟩ := t1'.keep hc12 l1
       obtain ⟨v0, v1, v2, -, -, -⟩ := t2.keep hc12 l2
       clear r0 r1 r2)
    )
  go_quiet (fail)
  have hdz := below_dn hd2 nq
  generalize w2.drewN nq = wz at *
  go_wp2_with (first
    | (go_at_call 12; (with_reducible refine (HV.out _ hdz).mono ?_); rintro e w7 ⟨⟨Y7, y7, rfl, hY7⟩, hc7⟩
       have hc7' := kal hc7 (.cells #[.int .i64 u, .int .i64 t, .slice Y7 k y7] 24)
       have hY7' := hY7.next (bl w7 (.cells #[.int .i64 u, .int .i64 t, .slice Y7 k y7] 24)))
    | (go_at_call 11; (with_reducible refine (HR.out _ _ _ hY7').mono ?_); rintro e w8 ⟨⟨X8, x8, rfl, hX8⟩, hc8⟩; have hd8 := bt hdz (bt hc7' hc8))
    | (go_at_call 14; (with_reducible refine (HK.out _ _ _ hd8 hX8).mono ?_); rintro e w9 ⟨rfl, hc9⟩; have hd9 := bt hd8 hc9)
    | (go_at_call 19; (with_reducible refine (wk_any _).mono ?_); rintro e w10 ⟨rfl, hc10⟩))
  go_ret
  exact ⟨rfl, bt hd9 hc10⟩
set_option maxHeartbeats 2000000 in
theorem back_010 (a s a' s' : Int) (A A' B : Option Addr) (n c n' c' m d : Nat) (l l' b : List UInt8) (w : World) (hln : l.length = n) (hln' : l'.length = n') (hm : b.length = m) (h : n ≤ 300) (h' : n' ≤ 300) (h'' : m ≤ 300) (hcl : n ≤ c) (hcm : c ≤ maxLen) (hA : Sl w w.heap.size A l) (hA' : Sl w w.heap.size A' l') (hB : Lies w B d b) (z : Nat) (hM : made a s l = ⟨z, []⟩) (hz : z ≠ 0) (F : List UInt8) (M : Nat) (hM' : made a' s' l' = ⟨0, F⟩) (hN' : F.length = M) (y : Nat) (hG : opened b = no y) (hy : y ≠ 0) :
    Calls Try.prog 4 #[.agg #[.int .i64 a, .int .i64 s, .slice A n c], .agg #[.int .i64 a', .int .i64 s', .slice A' n' c'], .slice B m d] w fun e w' => e = .returned (.bool true) ∧ Below w.heap.size w w' := by
  have i1 : ¬ (300 : Int) < (n : Int) := by omega
  have i2 : ¬ (300 : Int) < (n' : Int) := by omega
  have i3 : ¬ (300 : Int) < (m : Int) := by omega
  have hb1 := bl w (.cells #[.int .i64 a, .int .i64 s, .slice A n c] 24)
  have t1 := three_new w (.int .i64 a) (.int .i64 s) (.slice A n c) 24
  have hb2 := bl (w.alloc (.cells #[.int .i64 a, .int .i64 s, .slice A n c] 24)) (.cells #[.int .i64 a', .int .i64 s', .slice A' n' c'] 24)
  have t2 := three_new (w.alloc (.cells #[.int .i64 a, .int .i64 s, .slice A n c] 24)) (.int .i64 a') (.int .i64 s') (.slice A' n' c') 24
  have hb0 := bt hb1 hb2
  have t1' := t1.keep hb2 (by simp)
  rw [show (w.alloc (.cells #[.int .i64 a, .int .i64 s, .slice A n c] 24)).heap.size = w.heap.size + 1 by simp] at t2
  have l1 : w.heap.size < ((w.alloc (.cells #[.int .i64 a, .int .i64 s, .slice A n c] 24)).alloc (.cells #[.int .i64 a', .int .i64 s', .slice A' n' c'] 24)).heap.size := by simp; omega
  have l2 : w.heap.size + 1 < ((w.alloc (.cells #[.int .i64 a, .int .i64 s, .slice A n c] 24)).alloc (.cells #[.int .i64 a', .int .i64 s', .slice A' n' c'] 24)).heap.size := by simp
  clear t1 hb1 hb2
  have hX : ∀ (W : World), Below w.heap.size w W → Lies W A c l := fun W hb => ⟨by rw [hln]; exact hcl, hcm, (hA.below hb).more hb.size⟩
  have HX := Lib.hid hX
  clear hX
  have cA := fun (W : World) (hb : Below w.heap.size w W) => make_at a s A n c l W hln ((hA.below hb).more hb.size)
  have cB := fun (W : World) (hb : Below w.heap.size w W) => make_at a' s' A' n' c' l' W hln' ((hA'.below hb).more hb.size)
  rw [hM] at cA
  rw [hM'] at cB
  simp only [List.length_nil] at cA
  simp only [hN'] at cB
  have cV := fun (W : World) (hb : Below w.heap.size w W) => open_at m d B b W hm ⟨hB.1, hB.2.1, (hB.2.2.below hb).more hb.size⟩
  rw [hG] at cV
  unfold no at cV
  simp only [List.length_nil] at cV
  have HA := Lib.hid cA
  have HB := Lib.hid cB
  have HV := Lib.hid cV
  clear cA cB cV hA hA' hB hM hM' hG hln hln' hm
  have z1 : ((z : Int) == 0) = false := beq_eq_false_iff_ne.2 (by omega)
  have z2 : ((z : Int) != 0) = true := bne_iff_ne.2 (by omega)
  have z3 : (z == 0) = false := beq_eq_false_iff_ne.2 hz
  have z4 : (z != 0) = true := bne_iff_ne.2 hz
  clear hz
  clear hN'
  have y1 : ((y : Int) == 0) = false := beq_eq_false_iff_ne.2 (by omega)
  have y2 : ((y : Int) != 0) = true := bne_iff_ne.2 (by omega)
  have y3 : (y == 0) = false := beq_eq_false_iff_ne.2 hy
  have y4 : (y != 0) = true := bne_iff_ne.2 hy
  clear hy
  go_enter Try.func4, Try.ntmps4
  go_wp2_with fail
  generalize (w.alloc (.cells #[.int .i64 a, .int .i64 s, .slice A n c] 24)).alloc (.cells #[.int .i64 a', .int .i64 s', .slice A' n' c'] 24) = w0 at *
  go_wp2_with (first
    | (go_at_call 11; (with_reducible refine (HA.out _ hb0).mono ?_); rintro e w1 ⟨⟨X1, x1, rfl, hX1⟩, hc1⟩; obtain ⟨r0, r1, r2, -, -, -⟩ := t2.keep hc1 l2; have hd1 := bt hb0 hc1)
    | (go_at_call 11; (with_reducible refine (HB.out _ hd1).mono ?_); rintro e w2 ⟨⟨X2, x2, rfl, hX2⟩, hc2⟩
       have hc12 := bt hc1 hc2
       have hd2 := bt hd1 hc2
       obtain ⟨p0, p1, p2, -, -, -⟩ := t1'.keep hc12 l1
       obtain ⟨v0, v1, v2, -, -, -⟩ := t2.keep hc12 l2
       clear r0 r1 r2)
    )
  go_quiet (fail)
  have hdz := below_dn hd2 nq
  generalize w2.drewN nq = wz at *
  go_wp2_with (first
    | (go_at_call 12; (with_reducible refine (HV.out _ hdz).mono ?_); rintro e w7 ⟨⟨Y7, y7, rfl, hY7⟩, hc7⟩
       have hc7' := kal hc7 (.cells #[.int .i64 0, .int .i64 0, .slice Y7 0 y7] 24))
    | (go_at_call 17; (with_reducible refine (sector_none _ _ _).mono ?_); rintro e w8 ⟨rfl, hc8⟩; have hd8 := bt hdz (bt hc7' hc8))
    | (go_at_call 19; (with_reducible refine (wk_any _).mono ?_); rintro e w10 ⟨rfl, hc10⟩))
  go_ret
  exact ⟨rfl, bt hd8 hc10⟩
set_option maxHeartbeats 2000000 in
theorem back_011 (a s a' s' : Int) (A A' B : Option Addr) (n c n' c' m d : Nat) (l l' b : List UInt8) (w : World) (hln : l.length = n) (hln' : l'.length = n') (hm : b.length = m) (h : n ≤ 300) (h' : n' ≤ 300) (h'' : m ≤ 300) (hcl : n ≤ c) (hcm : c ≤ maxLen) (hA : Sl w w.heap.size A l) (hA' : Sl w w.heap.size A' l') (hB : Lies w B d b) (z : Nat) (hM : made a s l = ⟨z, []⟩) (hz : z ≠ 0) (F : List UInt8) (M : Nat) (hM' : made a' s' l' = ⟨0, F⟩) (hN' : F.length = M) (u t : Nat) (p : List UInt8) (k : Nat) (hG : opened b = ⟨0, u, t, p⟩) (hk : p.length = k) (hR : made u t p = ⟨0, b⟩) :
    Calls Try.prog 4 #[.agg #[.int .i64 a, .int .i64 s, .slice A n c], .agg #[.int .i64 a', .int .i64 s', .slice A' n' c'], .slice B m d] w fun e w' => e = .returned (.bool true) ∧ Below w.heap.size w w' := by
  have i1 : ¬ (300 : Int) < (n : Int) := by omega
  have i2 : ¬ (300 : Int) < (n' : Int) := by omega
  have i3 : ¬ (300 : Int) < (m : Int) := by omega
  have hb1 := bl w (.cells #[.int .i64 a, .int .i64 s, .slice A n c] 24)
  have t1 := three_new w (.int .i64 a) (.int .i64 s) (.slice A n c) 24
  have hb2 := bl (w.alloc (.cells #[.int .i64 a, .int .i64 s, .slice A n c] 24)) (.cells #[.int .i64 a', .int .i64 s', .slice A' n' c'] 24)
  have t2 := three_new (w.alloc (.cells #[.int .i64 a, .int .i64 s, .slice A n c] 24)) (.int .i64 a') (.int .i64 s') (.slice A' n' c') 24
  have hb0 := bt hb1 hb2
  have t1' := t1.keep hb2 (by simp)
  rw [show (w.alloc (.cells #[.int .i64 a, .int .i64 s, .slice A n c] 24)).heap.size = w.heap.size + 1 by simp] at t2
  have l1 : w.heap.size < ((w.alloc (.cells #[.int .i64 a, .int .i64 s, .slice A n c] 24)).alloc (.cells #[.int .i64 a', .int .i64 s', .slice A' n' c'] 24)).heap.size := by simp; omega
  have l2 : w.heap.size + 1 < ((w.alloc (.cells #[.int .i64 a, .int .i64 s, .slice A n c] 24)).alloc (.cells #[.int .i64 a', .int .i64 s', .slice A' n' c'] 24)).heap.size := by simp
  clear t1 hb1 hb2
  have hX : ∀ (W : World), Below w.heap.size w W → Lies W A c l := fun W hb => ⟨by rw [hln]; exact hcl, hcm, (hA.below hb).more hb.size⟩
  have HX := Lib.hid hX
  clear hX
  have cA := fun (W : World) (hb : Below w.heap.size w W) => make_at a s A n c l W hln ((hA.below hb).more hb.size)
  have cB := fun (W : World) (hb : Below w.heap.size w W) => make_at a' s' A' n' c' l' W hln' ((hA'.below hb).more hb.size)
  rw [hM] at cA
  rw [hM'] at cB
  simp only [List.length_nil] at cA
  simp only [hN'] at cB
  have cV := fun (W : World) (hb : Below w.heap.size w W) => open_at m d B b W hm ⟨hB.1, hB.2.1, (hB.2.2.below hb).more hb.size⟩
  rw [hG] at cV
  simp only [hk] at cV
  have cR := fun (W : World) (Y : Option Addr) (y : Nat) (h : Lies W Y y p) => make_at u t Y k y p W hk h.2.2
  rw [hR] at cR
  simp only [hm] at cR
  have cK : ∀ (W : World) (X : Option Addr) (x : Nat), Below w.heap.size w W → Lies W X x b → Calls Try.prog 14 #[.slice X m x, .slice B m d] W fun e w' => e = .returned (.bool true) ∧ Below W.heap.size W w' := fun W X x hb h1 => by
    have := bytes_lies m m X B x d b b W hm hm (by omega) h1 ⟨hB.1, hB.2.1, (hB.2.2.below hb).more hb.size⟩
    rwa [decide_eq_true rfl] at this
  have HR := Lib.hid cR
  have HK := Lib.hid cK
  clear cR cK hk
  have HA := Lib.hid cA
  have HB := Lib.hid cB
  have HV := Lib.hid cV
  clear cA cB cV hA hA' hB hM hM' hG hln hln' hm
  have z1 : ((z : Int) == 0) = false := beq_eq_false_iff_ne.2 (by omega)
  have z2 : ((z : Int) != 0) = true := bne_iff_ne.2 (by omega)
  have z3 : (z == 0) = false := beq_eq_false_iff_ne.2 hz
  have z4 : (z != 0) = true := bne_iff_ne.2 hz
  clear hz
  clear hN'
  clear hR
  go_enter Try.func4, Try.ntmps4
  go_wp2_with fail
  generalize (w.alloc (.cells #[.int .i64 a, .int .i64 s, .slice A n c] 24)).alloc (.cells #[.int .i64 a', .int .i64 s', .slice A' n' c'] 24) = w0 at *
  go_wp2_with (first
    | (go_at_call 11; (with_reducible refine (HA.out _ hb0).mono ?_); rintro e w1 ⟨⟨X1, x1, rfl, hX1⟩, hc1⟩; obtain ⟨r0, r1, r2, -, -, -⟩ := t2.keep hc1 l2; have hd1 := bt hb0 hc1)
    | (go_at_call 11; (with_reducible refine (HB.out _ hd1).mono ?_); rintro e w2 ⟨⟨X2, x2, rfl, hX2⟩, hc2⟩
       have hc12 := bt hc1 hc2
       have hd2 := bt hd1 hc2
       obtain ⟨p0, p1, p2, -, -, -⟩ := t1'.keep hc12 l1
       obtain ⟨v0, v1, v2, -, -, -⟩ := t2.keep hc12 l2
       clear r0 r1 r2)
    )
  go_quiet (fail)
  have hdz := below_dn hd2 nq
  generalize w2.drewN nq = wz at *
  go_wp2_with (first
    | (go_at_call 12; (with_reducible refine (HV.out _ hdz).mono ?_); rintro e w7 ⟨⟨Y7, y7, rfl, hY7⟩, hc7⟩
       have hc7' := kal hc7 (.cells #[.int .i64 u, .int .i64 t, .slice Y7 k y7] 24)
       have hY7' := hY7.next (bl w7 (.cells #[.int .i64 u, .int .i64 t, .slice Y7 k y7] 24)))
    | (go_at_call 11; (with_reducible refine (HR.out _ _ _ hY7').mono ?_); rintro e w8 ⟨⟨X8, x8, rfl, hX8⟩, hc8⟩; have hd8 := bt hdz (bt hc7' hc8))
    | (go_at_call 14; (with_reducible refine (HK.out _ _ _ hd8 hX8).mono ?_); rintro e w9 ⟨rfl, hc9⟩; have hd9 := bt hd8 hc9)
    | (go_at_call 19; (with_reducible refine (wk_any _).mono ?_); rintro e w10 ⟨rfl, hc10⟩))
  go_ret
  exact ⟨rfl, bt hd9 hc10⟩
set_option maxHeartbeats 2000000 in
theorem back_100 (a s a' s' : Int) (A A' B : Option Addr) (n c n' c' m d : Nat) (l l' b : List UInt8) (w : World) (hln : l.length = n) (hln' : l'.length = n') (hm : b.length = m) (h : n ≤ 300) (h' : n' ≤ 300) (h'' : m ≤ 300) (hcl : n ≤ c) (hcm : c ≤ maxLen) (hA : Sl w w.heap.size A l) (hA' : Sl w w.heap.size A' l') (hB : Lies w B d b) (E : List UInt8) (N : Nat) (hM : made a s l = ⟨0, E⟩) (hN : E.length = N) (hO : (opened E).err = 0 ∧ ((opened E).addr : Int) = a ∧ ((opened E).stamp : Int) = s ∧ (opened E).load = l) (z' : Nat) (hM' : made a' s' l' = ⟨z', []⟩) (hz' : z' ≠ 0) (y : Nat) (hG : opened b = no y) (hy : y ≠ 0) :
    Calls Try.prog 4 #[.agg #[.int .i64 a, .int .i64 s, .slice A n c], .agg #[.int .i64 a', .int .i64 s', .slice A' n' c'], .slice B m d] w fun e w' => e = .returned (.bool true) ∧ Below w.heap.size w w' := by
  have i1 : ¬ (300 : Int) < (n : Int) := by omega
  have i2 : ¬ (300 : Int) < (n' : Int) := by omega
  have i3 : ¬ (300 : Int) < (m : Int) := by omega
  have hb1 := bl w (.cells #[.int .i64 a, .int .i64 s, .slice A n c] 24)
  have t1 := three_new w (.int .i64 a) (.int .i64 s) (.slice A n c) 24
  have hb2 := bl (w.alloc (.cells #[.int .i64 a, .int .i64 s, .slice A n c] 24)) (.cells #[.int .i64 a', .int .i64 s', .slice A' n' c'] 24)
  have t2 := three_new (w.alloc (.cells #[.int .i64 a, .int .i64 s, .slice A n c] 24)) (.int .i64 a') (.int .i64 s') (.slice A' n' c') 24
  have hb0 := bt hb1 hb2
  have t1' := t1.keep hb2 (by simp)
  rw [show (w.alloc (.cells #[.int .i64 a, .int .i64 s, .slice A n c] 24)).heap.size = w.heap.size + 1 by simp] at t2
  have l1 : w.heap.size < ((w.alloc (.cells #[.int .i64 a, .int .i64 s, .slice A n c] 24)).alloc (.cells #[.int .i64 a', .int .i64 s', .slice A' n' c'] 24)).heap.size := by simp; omega
  have l2 : w.heap.size + 1 < ((w.alloc (.cells #[.int .i64 a, .int .i64 s, .slice A n c] 24)).alloc (.cells #[.int .i64 a', .int .i64 s', .slice A' n' c'] 24)).heap.size := by simp
  clear t1 hb1 hb2
  have hX : ∀ (W : World), Below w.heap.size w W → Lies W A c l := fun W hb => ⟨by rw [hln]; exact hcl, hcm, (hA.below hb).more hb.size⟩
  have HX := Lib.hid hX
  clear hX
  have cA := fun (W : World) (hb : Below w.heap.size w W) => make_at a s A n c l W hln ((hA.below hb).more hb.size)
  have cB := fun (W : World) (hb : Below w.heap.size w W) => make_at a' s' A' n' c' l' W hln' ((hA'.below hb).more hb.size)
  rw [hM] at cA
  rw [hM'] at cB
  simp only [hN] at cA
  simp only [List.length_nil] at cB
  have cO : ∀ (W : World) (X : Option Addr) (x : Nat), Lies W X x E → Calls Try.prog 12 #[.slice X N x] W fun e w' => (∃ Y y, e = .returned (.tuple #[.agg #[.int .i64 a, .int .i64 s, .slice Y n y], .int .i64 0]) ∧ Lies w' Y y l) ∧ Below W.heap.size W w' := fun W X x h => by
    have := open_at N x X E W hN h
    rw [hO.1, hO.2.1, hO.2.2.1, hO.2.2.2, hln] at this
    exact this
  have cS : ∀ (W : World) (X Y : Option Addr) (x y : Nat), Lies W X x l → Lies W Y y l → Calls Try.prog 17 #[.agg #[.int .i64 a, .int .i64 s, .slice X n x], .agg #[.int .i64 a, .int .i64 s, .slice Y n y]] W fun e w' => e = .returned (.bool true) ∧ Below W.heap.size W w' := fun W X Y x y h1 h2 => by
    have := sector_lies a s a s n n x y X Y l l W hln hln (by omega) h1 h2
    simpa using this
  have HO := Lib.hid cO
  have HS := Lib.hid cS
  clear cO cS
  have cV := fun (W : World) (hb : Below w.heap.size w W) => open_at m d B b W hm ⟨hB.1, hB.2.1, (hB.2.2.below hb).more hb.size⟩
  rw [hG] at cV
  unfold no at cV
  simp only [List.length_nil] at cV
  have HA := Lib.hid cA
  have HB := Lib.hid cB
  have HV := Lib.hid cV
  clear cA cB cV hA hA' hB hM hM' hG hln hln' hm
  clear hN hO
  have z1' : ((z' : Int) == 0) = false := beq_eq_false_iff_ne.2 (by omega)
  have z2' : ((z' : Int) != 0) = true := bne_iff_ne.2 (by omega)
  have z3' : (z' == 0) = false := beq_eq_false_iff_ne.2 hz'
  have z4' : (z' != 0) = true := bne_iff_ne.2 hz'
  clear hz'
  have y1 : ((y : Int) == 0) = false := beq_eq_false_iff_ne.2 (by omega)
  have y2 : ((y : Int) != 0) = true := bne_iff_ne.2 (by omega)
  have y3 : (y == 0) = false := beq_eq_false_iff_ne.2 hy
  have y4 : (y != 0) = true := bne_iff_ne.2 hy
  clear hy
  go_enter Try.func4, Try.ntmps4
  go_wp2_with fail
  generalize (w.alloc (.cells #[.int .i64 a, .int .i64 s, .slice A n c] 24)).alloc (.cells #[.int .i64 a', .int .i64 s', .slice A' n' c'] 24) = w0 at *
  go_wp2_with (first
    | (go_at_call 11; (with_reducible refine (HA.out _ hb0).mono ?_); rintro e w1 ⟨⟨X1, x1, rfl, hX1⟩, hc1⟩; obtain ⟨r0, r1, r2, -, -, -⟩ := t2.keep hc1 l2; have hd1 := bt hb0 hc1)
    | (go_at_call 11; (with_reducible refine (HB.out _ hd1).mono ?_); rintro e w2 ⟨⟨X2, x2, rfl, hX2⟩, hc2⟩
       have hc12 := bt hc1 hc2
       have hd2 := bt hd1 hc2
       obtain ⟨p0, p1, p2, -, -, -⟩ := t1'.keep hc12 l1
       obtain ⟨v0, v1, v2, -, -, -⟩ := t2.keep hc12 l2
       clear r0 r1 r2)
    | (go_at_call 12; (with_reducible refine (HO.out _ _ _ (hX1.next hc2)).mono ?_); rintro e w3 ⟨⟨Y3, y3, rfl, hY3⟩, hc3⟩
       have hc3' := kal hc3 (.cells #[.int .i64 a, .int .i64 s, .slice Y3 n y3] 24)
       have t3 := three_new w3 (.int .i64 a) (.int .i64 s) (.slice Y3 n y3) 24
       have hc13 := bt hc12 hc3'
       have hd3 := bt hb0 hc13
       have hY3' := hY3.next (bl w3 (.cells #[.int .i64 a, .int .i64 s, .slice Y3 n y3] 24))
       obtain ⟨s0, s1, s2, -, -, -⟩ := t1'.keep hc13 l1)
    | (go_at_call 17; (with_reducible refine (HS.out _ _ _ _ _ hY3' (HX.out _ hd3)).mono ?_); rintro e w4 ⟨rfl, hc4⟩
       have hc04 := bt hc13 hc4
       have hd4 := bt hb0 hc04
       obtain ⟨s0', s1', s2', -, -, -⟩ := t1'.keep hc04 l1
       obtain ⟨s3', s4', s5', -, -, -⟩ := t2.keep hc04 l2)
    )
  go_quiet (fail)
  have hdz := below_dn hd4 nq
  generalize w4.drewN nq = wz at *
  go_wp2_with (first
    | (go_at_call 12; (with_reducible refine (HV.out _ hdz).mono ?_); rintro e w7 ⟨⟨Y7, y7, rfl, hY7⟩, hc7⟩
       have hc7' := kal hc7 (.cells #[.int .i64 0, .int .i64 0, .slice Y7 0 y7] 24))
    | (go_at_call 17; (with_reducible refine (sector_none _ _ _).mono ?_); rintro e w8 ⟨rfl, hc8⟩; have hd8 := bt hdz (bt hc7' hc8))
    | (go_at_call 19; (with_reducible refine (wk_any _).mono ?_); rintro e w10 ⟨rfl, hc10⟩))
  go_ret
  exact ⟨rfl, bt hd8 hc10⟩
set_option maxHeartbeats 2000000 in
theorem back_101 (a s a' s' : Int) (A A' B : Option Addr) (n c n' c' m d : Nat) (l l' b : List UInt8) (w : World) (hln : l.length = n) (hln' : l'.length = n') (hm : b.length = m) (h : n ≤ 300) (h' : n' ≤ 300) (h'' : m ≤ 300) (hcl : n ≤ c) (hcm : c ≤ maxLen) (hA : Sl w w.heap.size A l) (hA' : Sl w w.heap.size A' l') (hB : Lies w B d b) (E : List UInt8) (N : Nat) (hM : made a s l = ⟨0, E⟩) (hN : E.length = N) (hO : (opened E).err = 0 ∧ ((opened E).addr : Int) = a ∧ ((opened E).stamp : Int) = s ∧ (opened E).load = l) (z' : Nat) (hM' : made a' s' l' = ⟨z', []⟩) (hz' : z' ≠ 0) (u t : Nat) (p : List UInt8) (k : Nat) (hG : opened b = ⟨0, u, t, p⟩) (hk : p.length = k) (hR : made u t p = ⟨0, b⟩) :
    Calls Try.prog 4 #[.agg #[.int .i64 a, .int .i64 s, .slice A n c], .agg #[.int .i64 a', .int .i64 s', .slice A' n' c'], .slice B m d] w fun e w' => e = .returned (.bool true) ∧ Below w.heap.size w w' := by
  have i1 : ¬ (300 : Int) < (n : Int) := by omega
  have i2 : ¬ (300 : Int) < (n' : Int) := by omega
  have i3 : ¬ (300 : Int) < (m : Int) := by omega
  have hb1 := bl w (.cells #[.int .i64 a, .int .i64 s, .slice A n c] 24)
  have t1 := three_new w (.int .i64 a) (.int .i64 s) (.slice A n c) 24
  have hb2 := bl (w.alloc (.cells #[.int .i64 a, .int .i64 s, .slice A n c] 24)) (.cells #[.int .i64 a', .int .i64 s', .slice A' n' c'] 24)
  have t2 := three_new (w.alloc (.cells #[.int .i64 a, .int .i64 s, .slice A n c] 24)) (.int .i64 a') (.int .i64 s') (.slice A' n' c') 24
  have hb0 := bt hb1 hb2
  have t1' := t1.keep hb2 (by simp)
  rw [show (w.alloc (.cells #[.int .i64 a, .int .i64 s, .slice A n c] 24)).heap.size = w.heap.size + 1 by simp] at t2
  have l1 : w.heap.size < ((w.alloc (.cells #[.int .i64 a, .int .i64 s, .slice A n c] 24)).alloc (.cells #[.int .i64 a', .int .i64 s', .slice A' n' c'] 24)).heap.size := by simp; omega
  have l2 : w.heap.size + 1 < ((w.alloc (.cells #[.int .i64 a, .int .i64 s, .slice A n c] 24)).alloc (.cells #[.int .i64 a', .int .i64 s', .slice A' n' c'] 24)).heap.size := by simp
  clear t1 hb1 hb2
  have hX : ∀ (W : World), Below w.heap.size w W → Lies W A c l := fun W hb => ⟨by rw [hln]; exact hcl, hcm, (hA.below hb).more hb.size⟩
  have HX := Lib.hid hX
  clear hX
  have cA := fun (W : World) (hb : Below w.heap.size w W) => make_at a s A n c l W hln ((hA.below hb).more hb.size)
  have cB := fun (W : World) (hb : Below w.heap.size w W) => make_at a' s' A' n' c' l' W hln' ((hA'.below hb).more hb.size)
  rw [hM] at cA
  rw [hM'] at cB
  simp only [hN] at cA
  simp only [List.length_nil] at cB
  have cO : ∀ (W : World) (X : Option Addr) (x : Nat), Lies W X x E → Calls Try.prog 12 #[.slice X N x] W fun e w' => (∃ Y y, e = .returned (.tuple #[.agg #[.int .i64 a, .int .i64 s, .slice Y n y], .int .i64 0]) ∧ Lies w' Y y l) ∧ Below W.heap.size W w' := fun W X x h => by
    have := open_at N x X E W hN h
    rw [hO.1, hO.2.1, hO.2.2.1, hO.2.2.2, hln] at this
    exact this
  have cS : ∀ (W : World) (X Y : Option Addr) (x y : Nat), Lies W X x l → Lies W Y y l → Calls Try.prog 17 #[.agg #[.int .i64 a, .int .i64 s, .slice X n x], .agg #[.int .i64 a, .int .i64 s, .slice Y n y]] W fun e w' => e = .returned (.bool true) ∧ Below W.heap.size W w' := fun W X Y x y h1 h2 => by
    have := sector_lies a s a s n n x y X Y l l W hln hln (by omega) h1 h2
    simpa using this
  have HO := Lib.hid cO
  have HS := Lib.hid cS
  clear cO cS
  have cV := fun (W : World) (hb : Below w.heap.size w W) => open_at m d B b W hm ⟨hB.1, hB.2.1, (hB.2.2.below hb).more hb.size⟩
  rw [hG] at cV
  simp only [hk] at cV
  have cR := fun (W : World) (Y : Option Addr) (y : Nat) (h : Lies W Y y p) => make_at u t Y k y p W hk h.2.2
  rw [hR] at cR
  simp only [hm] at cR
  have cK : ∀ (W : World) (X : Option Addr) (x : Nat), Below w.heap.size w W → Lies W X x b → Calls Try.prog 14 #[.slice X m x, .slice B m d] W fun e w' => e = .returned (.bool true) ∧ Below W.heap.size W w' := fun W X x hb h1 => by
    have := bytes_lies m m X B x d b b W hm hm (by omega) h1 ⟨hB.1, hB.2.1, (hB.2.2.below hb).more hb.size⟩
    rwa [decide_eq_true rfl] at this
  have HR := Lib.hid cR
  have HK := Lib.hid cK
  clear cR cK hk
  have HA := Lib.hid cA
  have HB := Lib.hid cB
  have HV := Lib.hid cV
  clear cA cB cV hA hA' hB hM hM' hG hln hln' hm
  clear hN hO
  have z1' : ((z' : Int) == 0) = false := beq_eq_false_iff_ne.2 (by omega)
  have z2' : ((z' : Int) != 0) = true := bne_iff_ne.2 (by omega)
  have z3' : (z' == 0) = false := beq_eq_false_iff_ne.2 hz'
  have z4' : (z' != 0) = true := bne_iff_ne.2 hz'
  clear hz'
  clear hR
  go_enter Try.func4, Try.ntmps4
  go_wp2_with fail
  generalize (w.alloc (.cells #[.int .i64 a, .int .i64 s, .slice A n c] 24)).alloc (.cells #[.int .i64 a', .int .i64 s', .slice A' n' c'] 24) = w0 at *
  go_wp2_with (first
    | (go_at_call 11; (with_reducible refine (HA.out _ hb0).mono ?_); rintro e w1 ⟨⟨X1, x1, rfl, hX1⟩, hc1⟩; obtain ⟨r0, r1, r2, -, -, -⟩ := t2.keep hc1 l2; have hd1 := bt hb0 hc1)
    | (go_at_call 11; (with_reducible refine (HB.out _ hd1).mono ?_); rintro e w2 ⟨⟨X2, x2, rfl, hX2⟩, hc2⟩
       have hc12 := bt hc1 hc2
       have hd2 := bt hd1 hc2
       obtain ⟨p0, p1, p2, -, -, -⟩ := t1'.keep hc12 l1
       obtain ⟨v0, v1, v2, -, -, -⟩ := t2.keep hc12 l2
       clear r0 r1 r2)
    | (go_at_call 12; (with_reducible refine (HO.out _ _ _ (hX1.next hc2)).mono ?_); rintro e w3 ⟨⟨Y3, y3, rfl, hY3⟩, hc3⟩
       have hc3' := kal hc3 (.cells #[.int .i64 a, .int .i64 s, .slice Y3 n y3] 24)
       have t3 := three_new w3 (.int .i64 a) (.int .i64 s) (.slice Y3 n y3) 24
       have hc13 := bt hc12 hc3'
       have hd3 := bt hb0 hc13
       have hY3' := hY3.next (bl w3 (.cells #[.int .i64 a, .int .i64 s, .slice Y3 n y3] 24))
       obtain ⟨s0, s1, s2, -, -, -⟩ := t1'.keep hc13 l1)
    | (go_at_call 17; (with_reducible refine (HS.out _ _ _ _ _ hY3' (HX.out _ hd3)).mono ?_); rintro e w4 ⟨rfl, hc4⟩
       have hc04 := bt hc13 hc4
       have hd4 := bt hb0 hc04
       obtain ⟨s0', s1', s2', -, -, -⟩ := t1'.keep hc04 l1
       obtain ⟨s3', s4', s5', -, -, -⟩ := t2.keep hc04 l2)
    )
  go_quiet (fail)
  have hdz := below_dn hd4 nq
  generalize w4.drewN nq = wz at *
  go_wp2_with (first
    | (go_at_call 12; (with_reducible refine (HV.out _ hdz).mono ?_); rintro e w7 ⟨⟨Y7, y7, rfl, hY7⟩, hc7⟩
       have hc7' := kal hc7 (.cells #[.int .i64 u, .int .i64 t, .slice Y7 k y7] 24)
       have hY7' := hY7.next (bl w7 (.cells #[.int .i64 u, .int .i64 t, .slice Y7 k y7] 24)))
    | (go_at_call 11; (with_reducible refine (HR.out _ _ _ hY7').mono ?_); rintro e w8 ⟨⟨X8, x8, rfl, hX8⟩, hc8⟩; have hd8 := bt hdz (bt hc7' hc8))
    | (go_at_call 14; (with_reducible refine (HK.out _ _ _ hd8 hX8).mono ?_); rintro e w9 ⟨rfl, hc9⟩; have hd9 := bt hd8 hc9)
    | (go_at_call 19; (with_reducible refine (wk_any _).mono ?_); rintro e w10 ⟨rfl, hc10⟩))
  go_ret
  exact ⟨rfl, bt hd9 hc10⟩
set_option maxHeartbeats 2000000 in
theorem back_110 (a s a' s' : Int) (A A' B : Option Addr) (n c n' c' m d : Nat) (l l' b : List UInt8) (w : World) (hln : l.length = n) (hln' : l'.length = n') (hm : b.length = m) (h : n ≤ 300) (h' : n' ≤ 300) (h'' : m ≤ 300) (hcl : n ≤ c) (hcm : c ≤ maxLen) (hcl' : n' ≤ c') (hcm' : c' ≤ maxLen) (hA : Sl w w.heap.size A l) (hA' : Sl w w.heap.size A' l') (hB : Lies w B d b) (E : List UInt8) (N : Nat) (hM : made a s l = ⟨0, E⟩) (hN : E.length = N) (hN2 : N ≤ 107) (hO : (opened E).err = 0 ∧ ((opened E).addr : Int) = a ∧ ((opened E).stamp : Int) = s ∧ (opened E).load = l) (F : List UInt8) (M : Nat) (hM' : made a' s' l' = ⟨0, F⟩) (hN' : F.length = M) (hEF : decide (E = F) = decide (a = a' ∧ s = s' ∧ l = l')) (y : Nat) (hG : opened b = no y) (hy : y ≠ 0) :
    Calls Try.prog 4 #[.agg #[.int .i64 a, .int .i64 s, .slice A n c], .agg #[.int .i64 a', .int .i64 s', .slice A' n' c'], .slice B m d] w fun e w' => e = .returned (.bool true) ∧ Below w.heap.size w w' := by
  have i1 : ¬ (300 : Int) < (n : Int) := by omega
  have i2 : ¬ (300 : Int) < (n' : Int) := by omega
  have i3 : ¬ (300 : Int) < (m : Int) := by omega
  have hb1 := bl w (.cells #[.int .i64 a, .int .i64 s, .slice A n c] 24)
  have t1 := three_new w (.int .i64 a) (.int .i64 s) (.slice A n c) 24
  have hb2 := bl (w.alloc (.cells #[.int .i64 a, .int .i64 s, .slice A n c] 24)) (.cells #[.int .i64 a', .int .i64 s', .slice A' n' c'] 24)
  have t2 := three_new (w.alloc (.cells #[.int .i64 a, .int .i64 s, .slice A n c] 24)) (.int .i64 a') (.int .i64 s') (.slice A' n' c') 24
  have hb0 := bt hb1 hb2
  have t1' := t1.keep hb2 (by simp)
  rw [show (w.alloc (.cells #[.int .i64 a, .int .i64 s, .slice A n c] 24)).heap.size = w.heap.size + 1 by simp] at t2
  have l1 : w.heap.size < ((w.alloc (.cells #[.int .i64 a, .int .i64 s, .slice A n c] 24)).alloc (.cells #[.int .i64 a', .int .i64 s', .slice A' n' c'] 24)).heap.size := by simp; omega
  have l2 : w.heap.size + 1 < ((w.alloc (.cells #[.int .i64 a, .int .i64 s, .slice A n c] 24)).alloc (.cells #[.int .i64 a', .int .i64 s', .slice A' n' c'] 24)).heap.size := by simp
  clear t1 hb1 hb2
  have hX : ∀ (W : World), Below w.heap.size w W → Lies W A c l := fun W hb => ⟨by rw [hln]; exact hcl, hcm, (hA.below hb).more hb.size⟩
  have HX := Lib.hid hX
  clear hX
  have cA := fun (W : World) (hb : Below w.heap.size w W) => make_at a s A n c l W hln ((hA.below hb).more hb.size)
  have cB := fun (W : World) (hb : Below w.heap.size w W) => make_at a' s' A' n' c' l' W hln' ((hA'.below hb).more hb.size)
  rw [hM] at cA
  rw [hM'] at cB
  simp only [hN] at cA
  simp only [hN'] at cB
  have cO : ∀ (W : World) (X : Option Addr) (x : Nat), Lies W X x E → Calls Try.prog 12 #[.slice X N x] W fun e w' => (∃ Y y, e = .returned (.tuple #[.agg #[.int .i64 a, .int .i64 s, .slice Y n y], .int .i64 0]) ∧ Lies w' Y y l) ∧ Below W.heap.size W w' := fun W X x h => by
    have := open_at N x X E W hN h
    rw [hO.1, hO.2.1, hO.2.2.1, hO.2.2.2, hln] at this
    exact this
  have cS : ∀ (W : World) (X Y : Option Addr) (x y : Nat), Lies W X x l → Lies W Y y l → Calls Try.prog 17 #[.agg #[.int .i64 a, .int .i64 s, .slice X n x], .agg #[.int .i64 a, .int .i64 s, .slice Y n y]] W fun e w' => e = .returned (.bool true) ∧ Below W.heap.size W w' := fun W X Y x y h1 h2 => by
    have := sector_lies a s a s n n x y X Y l l W hln hln (by omega) h1 h2
    simpa using this
  have HO := Lib.hid cO
  have HS := Lib.hid cS
  clear cO cS
  have cE : ∀ (W : World) (X Y : Option Addr) (x y : Nat), Lies W X x E → Lies W Y y F → Calls Try.prog 14 #[.slice X N x, .slice Y M y] W fun e w' => e = .returned (.bool (decide (E = F))) ∧ Below W.heap.size W w' := fun W X Y x y h1 h2 => bytes_lies N M X Y x y E F W hN hN' (by omega) h1 h2
  have cZ := fun (W : World) (hb : Below w.heap.size w W) => sector_lies a s a' s' n n' c c' A A' l l' W hln hln' (by omega) ⟨by rw [hln]; exact hcl, hcm, (hA.below hb).more hb.size⟩ ⟨by rw [hln']; exact hcl', hcm', (hA'.below hb).more hb.size⟩
  rw [← hEF] at cZ
  generalize decide (E = F) = same at *
  have q1 : (same != same) = false := by cases same <;> rfl
  have HE := Lib.hid cE
  have HZ := Lib.hid cZ
  clear cE cZ
  have cV := fun (W : World) (hb : Below w.heap.size w W) => open_at m d B b W hm ⟨hB.1, hB.2.1, (hB.2.2.below hb).more hb.size⟩
  rw [hG] at cV
  unfold no at cV
  simp only [List.length_nil] at cV
  have HA := Lib.hid cA
  have HB := Lib.hid cB
  have HV := Lib.hid cV
  clear cA cB cV hA hA' hB hM hM' hG hln hln' hm
  clear hN hO
  clear hN'
  clear hEF
  have y1 : ((y : Int) == 0) = false := beq_eq_false_iff_ne.2 (by omega)
  have y2 : ((y : Int) != 0) = true := bne_iff_ne.2 (by omega)
  have y3 : (y == 0) = false := beq_eq_false_iff_ne.2 hy
  have y4 : (y != 0) = true := bne_iff_ne.2 hy
  clear hy
  go_enter Try.func4, Try.ntmps4
  go_wp2_with fail
  generalize (w.alloc (.cells #[.int .i64 a, .int .i64 s, .slice A n c] 24)).alloc (.cells #[.int .i64 a', .int .i64 s', .slice A' n' c'] 24) = w0 at *
  go_wp2_with (first
    | (go_at_call 11; (with_reducible refine (HA.out _ hb0).mono ?_); rintro e w1 ⟨⟨X1, x1, rfl, hX1⟩, hc1⟩; obtain ⟨r0, r1, r2, -, -, -⟩ := t2.keep hc1 l2; have hd1 := bt hb0 hc1)
    | (go_at_call 11; (with_reducible refine (HB.out _ hd1).mono ?_); rintro e w2 ⟨⟨X2, x2, rfl, hX2⟩, hc2⟩
       have hc12 := bt hc1 hc2
       have hd2 := bt hd1 hc2
       obtain ⟨p0, p1, p2, -, -, -⟩ := t1'.keep hc12 l1
       obtain ⟨v0, v1, v2, -, -, -⟩ := t2.keep hc12 l2
       clear r0 r1 r2)
    | (go_at_call 12; (with_reducible refine (HO.out _ _ _ (hX1.next hc2)).mono ?_); rintro e w3 ⟨⟨Y3, y3, rfl, hY3⟩, hc3⟩
       have hc3' := kal hc3 (.cells #[.int .i64 a, .int .i64 s, .slice Y3 n y3] 24)
       have t3 := three_new w3 (.int .i64 a) (.int .i64 s) (.slice Y3 n y3) 24
       have hc13 := bt hc12 hc3'
       have hd3 := bt hb0 hc13
       have hY3' := hY3.next (bl w3 (.cells #[.int .i64 a, .int .i64 s, .slice Y3 n y3] 24))
       obtain ⟨s0, s1, s2, -, -, -⟩ := t1'.keep hc13 l1)
    | (go_at_call 17; (with_reducible refine (HS.out _ _ _ _ _ hY3' (HX.out _ hd3)).mono ?_); rintro e w4 ⟨rfl, hc4⟩
       have hc04 := bt hc13 hc4
       have hd4 := bt hb0 hc04
       obtain ⟨s0', s1', s2', -, -, -⟩ := t1'.keep hc04 l1
       obtain ⟨s3', s4', s5', -, -, -⟩ := t2.keep hc04 l2)
    )
  have e4 : Below w4.heap.size w4 w4.drew := below_dr (Below.refl _ _)
  have lE := hX1.next (bt hc2 (bt hc3' (bt hc4 e4)))
  have lF := hX2.next (bt hc3' (bt hc4 e4))
  have hd4' := bt hd4 e4
  go_region_held3 (fun W => W.cell? ⟨w.heap.size, 0, none⟩ = some (.int .i64 a) ∧ W.cell? ⟨w.heap.size, 1, none⟩ = some (.int .i64 s) ∧ W.cell? ⟨w.heap.size, 2, none⟩ = some (.slice A n c) ∧ W.cell? ⟨w.heap.size + 1, 0, none⟩ = some (.int .i64 a') ∧ W.cell? ⟨w.heap.size + 1, 1, none⟩ = some (.int .i64 s') ∧ W.cell? ⟨w.heap.size + 1, 2, none⟩ = some (.slice A' n' c') ∧ Below w4.heap.size w4 W)
    ((go_split_ands; refine ⟨?_, ?_, ?_, ?_, ?_, ?_, ?_⟩ <;> (first
      | assumption | exact below_dr (Below.refl _ _) | exact bt (by assumption) (by assumption)
      | exact kst (below_dr (Below.refl w4.heap.size w4)) (Nat.lt_of_lt_of_le l1 hc04.size) (by assumption) | exact kst (below_dr (Below.refl w4.heap.size w4)) (Nat.lt_of_lt_of_le l2 hc04.size) (by assumption)
      | exact kst (b := w.heap.size) (bt (a := w4) (by assumption) (by assumption)) (Nat.lt_of_lt_of_le l1 hc04.size) (by assumption) | exact kst (b := w.heap.size + 1) (bt (a := w4) (by assumption) (by assumption)) (Nat.lt_of_lt_of_le l2 hc04.size) (by assumption) | fail)))
    (first
      | (go_at_call 14; (with_reducible refine (HE.out _ _ _ _ _ lE lF).mono ?_); rintro e w5 ⟨rfl, hc5⟩; have hd5 := bt hd4' hc5)
      | (go_at_call 17; (with_reducible refine (HZ.out _ hd5).mono ?_); rintro e w6 ⟨rfl, hc6⟩)
      | (go_at_call 17; (with_reducible refine (HZ.out _ hd4').mono ?_); rintro e w5 ⟨rfl, hc5⟩; have lE5 := lE.next hc5; have lF5 := lF.next hc5)
      | (go_at_call 14; (with_reducible refine (HE.out _ _ _ _ _ lE5 lF5).mono ?_); rintro e w6 ⟨rfl, hc6⟩)
      | fail)
  go_split_ands
  have hdz := bt hd4 (bt e4 (bt hc5 hc6))
  clear p0 p1 p2 v0 v1 v2 lE lF
  generalize w6 = wz at *
  go_wp2_with (first
    | (go_at_call 12; (with_reducible refine (HV.out _ hdz).mono ?_); rintro e w7 ⟨⟨Y7, y7, rfl, hY7⟩, hc7⟩
       have hc7' := kal hc7 (.cells #[.int .i64 0, .int .i64 0, .slice Y7 0 y7] 24))
    | (go_at_call 17; (with_reducible refine (sector_none _ _ _).mono ?_); rintro e w8 ⟨rfl, hc8⟩; have hd8 := bt hdz (bt hc7' hc8))
    | (go_at_call 19; (with_reducible refine (wk_any _).mono ?_); rintro e w10 ⟨rfl, hc10⟩))
  go_ret
  exact ⟨rfl, bt hd8 hc10⟩
set_option maxHeartbeats 2000000 in
theorem back_111 (a s a' s' : Int) (A A' B : Option Addr) (n c n' c' m d : Nat) (l l' b : List UInt8) (w : World) (hln : l.length = n) (hln' : l'.length = n') (hm : b.length = m) (h : n ≤ 300) (h' : n' ≤ 300) (h'' : m ≤ 300) (hcl : n ≤ c) (hcm : c ≤ maxLen) (hcl' : n' ≤ c') (hcm' : c' ≤ maxLen) (hA : Sl w w.heap.size A l) (hA' : Sl w w.heap.size A' l') (hB : Lies w B d b) (E : List UInt8) (N : Nat) (hM : made a s l = ⟨0, E⟩) (hN : E.length = N) (hN2 : N ≤ 107) (hO : (opened E).err = 0 ∧ ((opened E).addr : Int) = a ∧ ((opened E).stamp : Int) = s ∧ (opened E).load = l) (F : List UInt8) (M : Nat) (hM' : made a' s' l' = ⟨0, F⟩) (hN' : F.length = M) (hEF : decide (E = F) = decide (a = a' ∧ s = s' ∧ l = l')) (u t : Nat) (p : List UInt8) (k : Nat) (hG : opened b = ⟨0, u, t, p⟩) (hk : p.length = k) (hR : made u t p = ⟨0, b⟩) :
    Calls Try.prog 4 #[.agg #[.int .i64 a, .int .i64 s, .slice A n c], .agg #[.int .i64 a', .int .i64 s', .slice A' n' c'], .slice B m d] w fun e w' => e = .returned (.bool true) ∧ Below w.heap.size w w' := by
  have i1 : ¬ (300 : Int) < (n : Int) := by omega
  have i2 : ¬ (300 : Int) < (n' : Int) := by omega
  have i3 : ¬ (300 : Int) < (m : Int) := by omega
  have hb1 := bl w (.cells #[.int .i64 a, .int .i64 s, .slice A n c] 24)
  have t1 := three_new w (.int .i64 a) (.int .i64 s) (.slice A n c) 24
  have hb2 := bl (w.alloc (.cells #[.int .i64 a, .int .i64 s, .slice A n c] 24)) (.cells #[.int .i64 a', .int .i64 s', .slice A' n' c'] 24)
  have t2 := three_new (w.alloc (.cells #[.int .i64 a, .int .i64 s, .slice A n c] 24)) (.int .i64 a') (.int .i64 s') (.slice A' n' c') 24
  have hb0 := bt hb1 hb2
  have t1' := t1.keep hb2 (by simp)
  rw [show (w.alloc (.cells #[.int .i64 a, .int .i64 s, .slice A n c] 24)).heap.size = w.heap.size + 1 by simp] at t2
  have l1 : w.heap.size < ((w.alloc (.cells #[.int .i64 a, .int .i64 s, .slice A n c] 24)).alloc (.cells #[.int .i64 a', .int .i64 s', .slice A' n' c'] 24)).heap.size := by simp; omega
  have l2 : w.heap.size + 1 < ((w.alloc (.cells #[.int .i64 a, .int .i64 s, .slice A n c] 24)).alloc (.cells #[.int .i64 a', .int .i64 s', .slice A' n' c'] 24)).heap.size := by simp
  clear t1 hb1 hb2
  have hX : ∀ (W : World), Below w.heap.size w W → Lies W A c l := fun W hb => ⟨by rw [hln]; exact hcl, hcm, (hA.below hb).more hb.size⟩
  have HX := Lib.hid hX
  clear hX
  have cA := fun (W : World) (hb : Below w.heap.size w W) => make_at a s A n c l W hln ((hA.below hb).more hb.size)
  have cB := fun (W : World) (hb : Below w.heap.size w W) => make_at a' s' A' n' c' l' W hln' ((hA'.below hb).more hb.size)
  rw [hM] at cA
  rw [hM'] at cB
  simp only [hN] at cA
  simp only [hN'] at cB
  have cO : ∀ (W : World) (X : Option Addr) (x : Nat), Lies W X x E → Calls Try.prog 12 #[.slice X N x] W fun e w' => (∃ Y y, e = .returned (.tuple #[.agg #[.int .i64 a, .int .i64 s, .slice Y n y], .int .i64 0]) ∧ Lies w' Y y l) ∧ Below W.heap.size W w' := fun W X x h => by
    have := open_at N x X E W hN h
    rw [hO.1, hO.2.1, hO.2.2.1, hO.2.2.2, hln] at this
    exact this
  have cS : ∀ (W : World) (X Y : Option Addr) (x y : Nat), Lies W X x l → Lies W Y y l → Calls Try.prog 17 #[.agg #[.int .i64 a, .int .i64 s, .slice X n x], .agg #[.int .i64 a, .int .i64 s, .slice Y n y]] W fun e w' => e = .returned (.bool true) ∧ Below W.heap.size W w' := fun W X Y x y h1 h2 => by
    have := sector_lies a s a s n n x y X Y l l W hln hln (by omega) h1 h2
    simpa using this
  have HO := Lib.hid cO
  have HS := Lib.hid cS
  clear cO cS
  have cE : ∀ (W : World) (X Y : Option Addr) (x y : Nat), Lies W X x E → Lies W Y y F → Calls Try.prog 14 #[.slice X N x, .slice Y M y] W fun e w' => e = .returned (.bool (decide (E = F))) ∧ Below W.heap.size W w' := fun W X Y x y h1 h2 => bytes_lies N M X Y x y E F W hN hN' (by omega) h1 h2
  have cZ := fun (W : World) (hb : Below w.heap.size w W) => sector_lies a s a' s' n n' c c' A A' l l' W hln hln' (by omega) ⟨by rw [hln]; exact hcl, hcm, (hA.below hb).more hb.size⟩ ⟨by rw [hln']; exact hcl', hcm', (hA'.below hb).more hb.size⟩
  rw [← hEF] at cZ
  generalize decide (E = F) = same at *
  have q1 : (same != same) = false := by cases same <;> rfl
  have HE := Lib.hid cE
  have HZ := Lib.hid cZ
  clear cE cZ
  have cV := fun (W : World) (hb : Below w.heap.size w W) => open_at m d B b W hm ⟨hB.1, hB.2.1, (hB.2.2.below hb).more hb.size⟩
  rw [hG] at cV
  simp only [hk] at cV
  have cR := fun (W : World) (Y : Option Addr) (y : Nat) (h : Lies W Y y p) => make_at u t Y k y p W hk h.2.2
  rw [hR] at cR
  simp only [hm] at cR
  have cK : ∀ (W : World) (X : Option Addr) (x : Nat), Below w.heap.size w W → Lies W X x b → Calls Try.prog 14 #[.slice X m x, .slice B m d] W fun e w' => e = .returned (.bool true) ∧ Below W.heap.size W w' := fun W X x hb h1 => by
    have := bytes_lies m m X B x d b b W hm hm (by omega) h1 ⟨hB.1, hB.2.1, (hB.2.2.below hb).more hb.size⟩
    rwa [decide_eq_true rfl] at this
  have HR := Lib.hid cR
  have HK := Lib.hid cK
  clear cR cK hk
  have HA := Lib.hid cA
  have HB := Lib.hid cB
  have HV := Lib.hid cV
  clear cA cB cV hA hA' hB hM hM' hG hln hln' hm
  clear hN hO
  clear hN'
  clear hEF
  clear hR
  go_enter Try.func4, Try.ntmps4
  go_wp2_with fail
  generalize (w.alloc (.cells #[.int .i64 a, .int .i64 s, .slice A n c] 24)).alloc (.cells #[.int .i64 a', .int .i64 s', .slice A' n' c'] 24) = w0 at *
  go_wp2_with (first
    | (go_at_call 11; (with_reducible refine (HA.out _ hb0).mono ?_); rintro e w1 ⟨⟨X1, x1, rfl, hX1⟩, hc1⟩; obtain ⟨r0, r1, r2, -, -, -⟩ := t2.keep hc1 l2; have hd1 := bt hb0 hc1)
    | (go_at_call 11; (with_reducible refine (HB.out _ hd1).mono ?_); rintro e w2 ⟨⟨X2, x2, rfl, hX2⟩, hc2⟩
       have hc12 := bt hc1 hc2
       have hd2 := bt hd1 hc2
       obtain ⟨p0, p1, p2, -, -, -⟩ := t1'.keep hc12 l1
       obtain ⟨v0, v1, v2, -, -, -⟩ := t2.keep hc12 l2
       clear r0 r1 r2)
    | (go_at_call 12; (with_reducible refine (HO.out _ _ _ (hX1.next hc2)).mono ?_); rintro e w3 ⟨⟨Y3, y3, rfl, hY3⟩, hc3⟩
       have hc3' := kal hc3 (.cells #[.int .i64 a, .int .i64 s, .slice Y3 n y3] 24)
       have t3 := three_new w3 (.int .i64 a) (.int .i64 s) (.slice Y3 n y3) 24
       have hc13 := bt hc12 hc3'
       have hd3 := bt hb0 hc13
       have hY3' := hY3.next (bl w3 (.cells #[.int .i64 a, .int .i64 s, .slice Y3 n y3] 24))
       obtain ⟨s0, s1, s2, -, -, -⟩ := t1'.keep hc13 l1)
    | (go_at_call 17; (with_reducible refine (HS.out _ _ _ _ _ hY3' (HX.out _ hd3)).mono ?_); rintro e w4 ⟨rfl, hc4⟩
       have hc04 := bt hc13 hc4
       have hd4 := bt hb0 hc04
       obtain ⟨s0', s1', s2', -, -, -⟩ := t1'.keep hc04 l1
       obtain ⟨s3', s4', s5', -, -, -⟩ := t2.keep hc04 l2)
    )
  have e4 : Below w4.heap.size w4 w4.drew := below_dr (Below.refl _ _)
  have lE := hX1.next (bt hc2 (bt hc3' (bt hc4 e4)))
  have lF := hX2.next (bt hc3' (bt hc4 e4))
  have hd4' := bt hd4 e4
  go_region_held3 (fun W => W.cell? ⟨w.heap.size, 0, none⟩ = some (.int .i64 a) ∧ W.cell? ⟨w.heap.size, 1, none⟩ = some (.int .i64 s) ∧ W.cell? ⟨w.heap.size, 2, none⟩ = some (.slice A n c) ∧ W.cell? ⟨w.heap.size + 1, 0, none⟩ = some (.int .i64 a') ∧ W.cell? ⟨w.heap.size + 1, 1, none⟩ = some (.int .i64 s') ∧ W.cell? ⟨w.heap.size + 1, 2, none⟩ = some (.slice A' n' c') ∧ Below w4.heap.size w4 W)
    ((go_split_ands; refine ⟨?_, ?_, ?_, ?_, ?_, ?_, ?_⟩ <;> (first
      | assumption | exact below_dr (Below.refl _ _) | exact bt (by assumption) (by assumption)
      | exact kst (below_dr (Below.refl w4.heap.size w4)) (Nat.lt_of_lt_of_le l1 hc04.size) (by assumption) | exact kst (below_dr (Below.refl w4.heap.size w4)) (Nat.lt_of_lt_of_le l2 hc04.size) (by assumption)
      | exact kst (b := w.heap.size) (bt (a := w4) (by assumption) (by assumption)) (Nat.lt_of_lt_of_le l1 hc04.size) (by assumption) | exact kst (b := w.heap.size + 1) (bt (a := w4) (by assumption) (by assumption)) (Nat.lt_of_lt_of_le l2 hc04.size) (by assumption) | fail)))
    (first
      | (go_at_call 14; (with_reducible refine (HE.out _ _ _ _ _ lE lF).mono ?_); rintro e w5 ⟨rfl, hc5⟩; have hd5 := bt hd4' hc5)
      | (go_at_call 17; (with_reducible refine (HZ.out _ hd5).mono ?_); rintro e w6 ⟨rfl, hc6⟩)
      | (go_at_call 17; (with_reducible refine (HZ.out _ hd4').mono ?_); rintro e w5 ⟨rfl, hc5⟩; have lE5 := lE.next hc5; have lF5 := lF.next hc5)
      | (go_at_call 14; (with_reducible refine (HE.out _ _ _ _ _ lE5 lF5).mono ?_); rintro e w6 ⟨rfl, hc6⟩)
      | fail)
  go_split_ands
  have hdz := bt hd4 (bt e4 (bt hc5 hc6))
  clear p0 p1 p2 v0 v1 v2 lE lF
  generalize w6 = wz at *
  go_wp2_with (first
    | (go_at_call 12; (with_reducible refine (HV.out _ hdz).mono ?_); rintro e w7 ⟨⟨Y7, y7, rfl, hY7⟩, hc7⟩
       have hc7' := kal hc7 (.cells #[.int .i64 u, .int .i64 t, .slice Y7 k y7] 24)
       have hY7' := hY7.next (bl w7 (.cells #[.int .i64 u, .int .i64 t, .slice Y7 k y7] 24)))
    | (go_at_call 11; (with_reducible refine (HR.out _ _ _ hY7').mono ?_); rintro e w8 ⟨⟨X8, x8, rfl, hX8⟩, hc8⟩; have hd8 := bt hdz (bt hc7' hc8))
    | (go_at_call 14; (with_reducible refine (HK.out _ _ _ hd8 hX8).mono ?_); rintro e w9 ⟨rfl, hc9⟩; have hd9 := bt hd8 hc9)
    | (go_at_call 19; (with_reducible refine (wk_any _).mono ?_); rintro e w10 ⟨rfl, hc10⟩))
  go_ret
  exact ⟨rfl, bt hd9 hc10⟩
theorem back_law (a s : Int) (A : Option Addr) (c : Nat) (l : List UInt8) (a' s' : Int) (A' : Option Addr) (c' : Nat) (l' : List UInt8) (B : Option Addr) (d : Nat) (b : List UInt8) (w : World)
    (hcl : l.length ≤ c) (hcm : c ≤ maxLen) (hcl' : l'.length ≤ c') (hcm' : c' ≤ maxLen) (hd : b.length ≤ d) (hdm : d ≤ maxLen) (hA : Sl w w.heap.size A l) (hA' : Sl w w.heap.size A' l') (hB : Sl w w.heap.size B b) :
    Calls Try.prog 4 #[.agg #[.int .i64 a, .int .i64 s, .slice A l.length c], .agg #[.int .i64 a', .int .i64 s', .slice A' l'.length c'], .slice B b.length d] w fun e w' => e = .returned (.bool true) ∧ Below w.heap.size w w' := by
  by_cases hlong : 300 < l.length ∨ 300 < l'.length ∨ 300 < b.length
  · exact back_long a s a' s' A A' B _ c _ c' _ d w hlong
  · have g1 : l.length ≤ 300 := by omega
    have g2 : l'.length ≤ 300 := by omega
    have g3 : b.length ≤ 300 := by omega
    have hBL : Lies w B d b := ⟨hd, hdm, hB⟩
    have mz : ∀ (a s : Int) (l : List UInt8), (made a s l).err ≠ 0 → made a s l = ⟨(made a s l).err, []⟩ := fun a s l h => by
      have := made_err h
      rw [← this]
    by_cases hg : (opened b).err = 0
    · obtain ⟨r1, r2, r3, r4⟩ := enc_opened hg
      have hG : opened b = ⟨0, (opened b).addr, (opened b).stamp, (opened b).load⟩ := by rw [← hg]
      have hR : made ((opened b).addr : Nat) ((opened b).stamp : Nat) (opened b).load = ⟨0, b⟩ := by rw [made_ok r2 r3 r4, r1]
      by_cases he : (made a s l).err = 0
      · obtain ⟨x, y, rfl, rfl, hx, hy, hl, -⟩ := made_zero he
        have hO : (opened (enc x y l)).err = 0 ∧ ((opened (enc x y l)).addr : Int) = x ∧ ((opened (enc x y l)).stamp : Int) = y ∧ (opened (enc x y l)).load = l := by
          rw [opened_enc hx hy hl]
          exact ⟨rfl, rfl, rfl, rfl⟩
        by_cases hf : (made a' s' l').err = 0
        · obtain ⟨x', y', rfl, rfl, hx', hy', hl', -⟩ := made_zero hf
          exact back_111 x y x' y' A A' B _ c _ c' _ d l l' b w rfl rfl rfl g1 g2 g3 hcl hcm hcl' hcm' hA hA' hBL (enc x y l) _ (made_ok hx hy hl) rfl (by rw [enc_length]; omega) hO (enc x' y' l') _ (made_ok hx' hy' hl') rfl (enc_same hx hy hl hx' hy' hl') _ _ _ _ hG rfl hR
        · exact back_101 x y a' s' A A' B _ c _ c' _ d l l' b w rfl rfl rfl g1 g2 g3 hcl hcm hA hA' hBL (enc x y l) _ (made_ok hx hy hl) rfl hO _ (mz _ _ _ hf) hf _ _ _ _ hG rfl hR
      · by_cases hf : (made a' s' l').err = 0
        · obtain ⟨x', y', rfl, rfl, hx', hy', hl', -⟩ := made_zero hf
          exact back_011 a s x' y' A A' B _ c _ c' _ d l l' b w rfl rfl rfl g1 g2 g3 hcl hcm hA hA' hBL _ (mz _ _ _ he) he (enc x' y' l') _ (made_ok hx' hy' hl') rfl _ _ _ _ hG rfl hR
        · exact back_001 a s a' s' A A' B _ c _ c' _ d l l' b w rfl rfl rfl g1 g2 g3 hcl hcm hA hA' hBL _ (mz _ _ _ he) he _ (mz _ _ _ hf) hf _ _ _ _ hG rfl hR
    · have hG := opened_err hg
      by_cases he : (made a s l).err = 0
      · obtain ⟨x, y, rfl, rfl, hx, hy, hl, -⟩ := made_zero he
        have hO : (opened (enc x y l)).err = 0 ∧ ((opened (enc x y l)).addr : Int) = x ∧ ((opened (enc x y l)).stamp : Int) = y ∧ (opened (enc x y l)).load = l := by
          rw [opened_enc hx hy hl]
          exact ⟨rfl, rfl, rfl, rfl⟩
        by_cases hf : (made a' s' l').err = 0
        · obtain ⟨x', y', rfl, rfl, hx', hy', hl', -⟩ := made_zero hf
          exact back_110 x y x' y' A A' B _ c _ c' _ d l l' b w rfl rfl rfl g1 g2 g3 hcl hcm hcl' hcm' hA hA' hBL (enc x y l) _ (made_ok hx hy hl) rfl (by rw [enc_length]; omega) hO (enc x' y' l') _ (made_ok hx' hy' hl') rfl (enc_same hx hy hl hx' hy' hl') _ hG hg
        · exact back_100 x y a' s' A A' B _ c _ c' _ d l l' b w rfl rfl rfl g1 g2 g3 hcl hcm hA hA' hBL (enc x y l) _ (made_ok hx hy hl) rfl hO _ (mz _ _ _ hf) hf _ hG hg
      · by_cases hf : (made a' s' l').err = 0
        · obtain ⟨x', y', rfl, rfl, hx', hy', hl', -⟩ := made_zero hf
          exact back_010 a s x' y' A A' B _ c _ c' _ d l l' b w rfl rfl rfl g1 g2 g3 hcl hcm hA hA' hBL _ (mz _ _ _ he) he (enc x' y' l') _ (made_ok hx' hy' hl') rfl _ hG hg
        · exact back_000 a s a' s' A A' B _ c _ c' _ d l l' b w rfl rfl rfl g1 g2 g3 hcl hcm hA hA' hBL _ (mz _ _ _ he) he _ (mz _ _ _ hf) hf _ hG hg
end Go.Proofs.Ytajgkfcflbmkdaa.sel
