/-
  The document's own answers for sectors (as the statements' package gives them), each by its contract. Conditions: byte strings shorter than 2^20.
-/
import Derived.Test.YtajgkfcflbmkdaaSlD
import Derived.Test.YtajgkfcflbmkdaaPkD
namespace Go.Proofs.Ytajgkfcflbmkdaa.sel
open Go.RowKit Go.Lib
open Go.Proofs.Ytajgkfcflbmkdaa.crc (Turned TurnedAll turn xor_u8 sum ref_sum sum_lt)
open Go.Proofs.Ytajgkfcflbmkdaa.pck (num le le_length ref_get ref_put ref_part)

/-- Whether two sectors are the same. -/
theorem sector_any (a s a' s' : Int) (A A' : Option Addr) (c c' n n' : Nat) (l l' : List UInt8) (w : World) (hn : l.length = n) (hn' : l'.length = n') (hA : Sl w w.heap.size A l) (hA' : Sl w w.heap.size A' l') (hl : n ≤ 1048576) :
    Calls Try.prog 17 #[.agg #[.int .i64 a, .int .i64 s, .slice A n c], .agg #[.int .i64 a', .int .i64 s', .slice A' n' c']] w fun e w' => e = .returned (.bool (decide (a = a' ∧ s = s' ∧ l = l'))) ∧ Below w.heap.size w w' := by
  have cK := fun (W : World) (hb : Below w.heap.size w W) => keep_any A A' c c' W.heap.size W.heap.size l l' W ((hA.below hb).more hb.size) ((hA'.below hb).more hb.size) (Nat.le_refl _) (Nat.le_refl _) (by omega)
  have hb0 : ∀ o o', Below w.heap.size w ((w.alloc o).alloc o') := fun o o' => ((Below.refl _ _).alloc (Nat.le_refl _) o).alloc (by simp) o'
  rw [hn, hn'] at cK
  by_cases ha : a = a'
  · subst ha
    have a1 : (a == a) = true := beq_self_eq_true a
    by_cases hs : s = s'
    · subst hs
      have s1 : (s == s) = true := beq_self_eq_true s
      have hd : decide (a = a ∧ s = s ∧ l = l') = decide (l = l') := by simp
      rw [hd]
      clear hd hA hA' hn hn'
      generalize decide (l = l') = z at *
      go_enter Try.func17, Try.ntmps17
      go_wp2_with (first
        | (go_at_call 14; (with_reducible refine (cK _ (hb0 _ _)).mono ?_); rintro e w1 ⟨rfl, hb1⟩))
      go_ret
      exact ⟨rfl, (hb0 _ _).trans (hb1.mono (by simp; omega))⟩
    · have s1 : (s == s') = false := beq_eq_false_iff_ne.2 hs
      have hd : decide (a = a ∧ s = s' ∧ l = l') = false := decide_eq_false fun h => hs h.2.1
      rw [hd]
      clear hd hA hA' hn hn' cK
      go_enter Try.func17, Try.ntmps17
      go_wp2
      go_ret
      exact ⟨rfl, hb0 _ _⟩
  · have a1 : (a == a') = false := beq_eq_false_iff_ne.2 ha
    have hd : decide (a = a' ∧ s = s' ∧ l = l') = false := decide_eq_false fun h => ha h.1
    rw [hd]
    clear hd hA hA' hn hn' cK
    go_enter Try.func17, Try.ntmps17
    go_wp2
    go_ret
    exact ⟨rfl, hb0 _ _⟩

theorem ref_in (z : Bool) (a lo hi : Int) (w : World) (hz : z = true ↔ lo ≤ a ∧ a ≤ hi) :
    Calls Try.prog 33 #[.int .i64 a, .int .i64 lo, .int .i64 hi] w fun e w' => e = .returned (.bool z) ∧ w = w' := by
  by_cases h1 : lo ≤ a
  · by_cases h2 : a ≤ hi
    · obtain rfl : z = true := hz.2 ⟨h1, h2⟩
      clear hz
      go_enter Try.func33, Try.ntmps33
      go_wp2
      go_ret
      exact ⟨rfl, rfl⟩
    · obtain rfl : z = false := by
        cases z with
        | false => rfl
        | true => exact absurd (hz.1 rfl).2 h2
      clear hz
      go_enter Try.func33, Try.ntmps33
      go_wp2
      go_ret
      exact ⟨rfl, rfl⟩
  · obtain rfl : z = false := by
      cases z with
      | false => rfl
      | true => exact absurd (hz.1 rfl).1 h1
    clear hz
    go_enter Try.func33, Try.ntmps33
    go_wp2
    go_ret
    exact ⟨rfl, rfl⟩
theorem ref_right (a s : Int) (v : Value) (w : World) (hv : ∃ A n c, v = .slice A n c) :
    Calls Try.prog 18 #[.agg #[.int .i64 a, .int .i64 s, v]] w fun e w' => e = .returned (.bool (decide (OkS a s))) ∧ Below w.heap.size w w' := by
  obtain ⟨A, n, c, rfl⟩ := hv
  by_cases h1 : 0 ≤ a ∧ a ≤ 65535
  · have c1 := fun W => ref_in true a 0 65535 W (iff_of_true rfl h1)
    have c2 := fun W => ref_in (decide (OkS a s)) s 0 4294967295 W (decide_eq_true_iff.trans (by unfold OkS; omega))
    generalize decide (OkS a s) = z at *
    clear h1
    go_enter Try.func18, Try.ntmps18
    go_wp2_with (first
      | (go_at_call 33; (with_reducible refine (c1 _).mono ?_); rintro e w1 ⟨rfl, rfl⟩)
      | (go_at_call 33; (with_reducible refine (c2 _).mono ?_); rintro e w1 ⟨rfl, rfl⟩))
    go_ret
    exact ⟨rfl, bl w _⟩
  · have c1 := fun W => ref_in false a 0 65535 W (iff_of_false Bool.false_ne_true h1)
    have hd : decide (OkS a s) = false := decide_eq_false fun h => h1 (by unfold OkS at h; omega)
    rw [hd]
    clear h1 hd
    go_enter Try.func18, Try.ntmps18
    go_wp2_with (first
      | (go_at_call 33; (with_reducible refine (c1 _).mono ?_); rintro e w1 ⟨rfl, rfl⟩))
    go_ret
    exact ⟨rfl, bl w _⟩

theorem put_form (k m n q : Nat) (A : Option Addr) (c : Nat) (l : List UInt8) (w : World) (hk : k ≤ 8) (hm : m < 4294967296) (hln : l.length = n) (hq : n + k = q) (hl : n ≤ 1048576) (hA : Sl w w.heap.size A l) :
    Calls Try.prog 34 #[.slice A n c, .int .i64 m, .int .i64 k] w fun e w' => (∃ X x, e = .returned (.slice X q x) ∧ Lies w' X x (l ++ le k m)) ∧ Below w.heap.size w w' := by
  refine (ref_put k m n A c l w hk hm hln hl hA).mono ?_
  rintro e w' ⟨⟨v, rfl, ho⟩, hb⟩
  obtain ⟨X, x, hv, hx, hxm, hs, -⟩ := ho.form
  have : (l ++ le k m).length = q := by rw [List.length_append, le_length]; omega
  rw [this] at hv
  subst hv
  exact ⟨⟨X, x, rfl, hx, hxm, hs⟩, hb⟩
theorem rpart_form (n : Nat) (A : Option Addr) (c : Nat) (l : List UInt8) (w : World) (hln : l.length = n) (hl : n ≤ 255) (hA : Sl w w.heap.size A l) :
    Calls Try.prog 35 #[.slice A n c] w fun e w' => (∃ X x, e = .returned (.slice X (n + 1) x) ∧ Lies w' X x (le 1 n ++ l)) ∧ Below w.heap.size w w' := by
  refine (ref_part n A c l w hln hl hA).mono ?_
  rintro e w' ⟨⟨v, rfl, ho⟩, hb⟩
  obtain ⟨X, x, hv, hx, hxm, hs, -⟩ := ho.form
  have : (le 1 n ++ l).length = n + 1 := by rw [List.length_append, le_length]; omega
  rw [this] at hv
  subst hv
  exact ⟨⟨X, x, rfl, hx, hxm, hs⟩, hb⟩

set_option maxHeartbeats 1000000 in
theorem ref_seal' (a s n c q : Nat) (A : Option Addr) (l L1 L2 L3 : List UInt8) (w : World) (e1 : le 1 n ++ l = L1) (e2 : L1 ++ le 2 a = L2) (e3 : L2 ++ le 4 s = L3) (e4 : sum L3 = q) (ha : a < 65536) (hs : s < 4294967296) (hln : l.length = n) (hn : n ≤ 96) (hA : Sl w w.heap.size A l) :
    Calls Try.prog 20 #[.agg #[.int .i64 a, .int .i64 s, .slice A n c]] w fun e w' => (∃ X x, e = .returned (.slice X (n + 11) x) ∧ Lies w' X x (L3 ++ le 4 q)) ∧ Below w.heap.size w w' := by
  have f1 : L1.length = n + 1 := by rw [← e1, List.length_append, le_length]; omega
  have f2 : L2.length = n + 3 := by rw [← e2, List.length_append, le_length]; omega
  have f3 : L3.length = n + 7 := by rw [← e3, List.length_append, le_length]; omega
  have hq : q < 4294967296 := by rw [← e4]; exact sum_lt L3
  have cP := fun (W : World) (hb : Below w.heap.size w W) => rpart_form n A c l W hln (by omega) ((hA.below hb).more hb.size)
  have cA : ∀ (W : World) (X : Option Addr) (x : Nat), Lies W X x L1 → Calls Try.prog 34 #[.slice X (n + 1) x, .int .i64 a, .int .i64 2] W fun e w' => (∃ X x, e = .returned (.slice X (n + 3) x) ∧ Lies w' X x L2) ∧ Below W.heap.size W w' := fun W X x h => by
    have := put_form 2 a (n + 1) (n + 3) X x L1 W (by omega) (by omega) f1 rfl (by omega) h.2.2
    rwa [e2] at this
  have cB : ∀ (W : World) (X : Option Addr) (x : Nat), Lies W X x L2 → Calls Try.prog 34 #[.slice X (n + 3) x, .int .i64 s, .int .i64 4] W fun e w' => (∃ X x, e = .returned (.slice X (n + 7) x) ∧ Lies w' X x L3) ∧ Below W.heap.size W w' := fun W X x h => by
    have := put_form 4 s (n + 3) (n + 7) X x L2 W (by omega) hs f2 rfl (by omega) h.2.2
    rwa [e3] at this
  have cC : ∀ (W : World) (X : Option Addr) (x : Nat), Lies W X x L3 → Calls Try.prog 34 #[.slice X (n + 7) x, .int .i64 q, .int .i64 4] W fun e w' => (∃ X x, e = .returned (.slice X (n + 11) x) ∧ Lies w' X x (L3 ++ le 4 q)) ∧ Below W.heap.size W w' := fun W X x h => put_form 4 q (n + 7) (n + 11) X x L3 W (by omega) hq f3 rfl (by omega) h.2.2
  have cS : ∀ (W : World) (X : Option Addr) (x : Nat), Lies W X x L3 → Calls Try.prog 22 #[.slice X (n + 7) x] W fun e w' => e = .returned (.int .i64 q) ∧ W = w' := fun W X x h => by
    have := ref_sum X x _ L3 W h.2.2 (by rw [f3]; unfold maxLen; omega)
    rwa [f3, e4] at this
  rw [e1] at cP
  have HP := Lib.hid cP
  have HA := Lib.hid cA
  have HB := Lib.hid cB
  have HC := Lib.hid cC
  have HS := Lib.hid cS
  have hb0 := bl w (.cells #[.int .i64 a, .int .i64 s, .slice A n c] 24)
  obtain ⟨g0, g1, g2, -, -, -⟩ := three_new w (.int .i64 a) (.int .i64 s) (.slice A n c) 24
  have hl : w.heap.size < (w.alloc (.cells #[.int .i64 a, .int .i64 s, .slice A n c] 24)).heap.size := by simp
  clear cP cA cB cC cS e1 e2 e3 e4 f1 f2 f3 hA hln ha hs hq
  go_enter Try.func20, Try.ntmps20
  go_wp2
  generalize w.alloc (.cells #[.int .i64 a, .int .i64 s, .slice A n c] 24) = w0 at *
  go_region_held3 (fun W => W.cell? ⟨w.heap.size, 0, none⟩ = some (.int .i64 a) ∧ W.cell? ⟨w.heap.size, 1, none⟩ = some (.int .i64 s) ∧ W.cell? ⟨w.heap.size, 2, none⟩ = some (.slice A n c) ∧ Below w0.heap.size w0 W)
    ((go_split_ands; refine ⟨?_, ?_, ?_, ?_⟩ <;> (first
      | assumption | exact below_dr (Below.refl _ _) | exact bt (by assumption) (by assumption)
      | exact kst (below_dr (Below.refl _ _)) hl (by assumption) | exact kst (bt (by assumption) (by assumption)) hl (by assumption) | exact kst (by assumption) hl (by assumption) | fail)))
    (first
      | (go_at_call 35; (with_reducible refine (HP.out _ (bt hb0 (below_dr (Below.refl _ _)))).mono ?_); rintro e w1 ⟨⟨X1, x1, rfl, h1⟩, hb1⟩)
      | (go_at_call 34; (with_reducible refine (HA.out _ _ _ h1).mono ?_); rintro e w2 ⟨⟨X2, x2, rfl, h2⟩, hb2⟩)
      | (go_at_call 34; (with_reducible refine (HB.out _ _ _ h2).mono ?_); rintro e w3 ⟨⟨X3, x3, rfl, h3⟩, hb3⟩)
      | fail)
  go_split_ands
  have hb3' : Below w0.heap.size w0 w3 := by assumption
  go_wp2_with (first
    | (go_at_call 22; (with_reducible refine (HS.out _ _ _ h3).mono ?_); rintro e w4 ⟨rfl, rfl⟩)
    | (go_at_call 34; (with_reducible refine (HC.out _ _ _ h3).mono ?_); rintro e w5 ⟨⟨X5, x5, rfl, h5⟩, hb5⟩))
  go_ret
  exact ⟨⟨X5, x5, rfl, h5⟩, bt (bt hb0 hb3') hb5⟩
theorem ref_seal (a s n c : Nat) (A : Option Addr) (l : List UInt8) (w : World) (ha : a < 65536) (hs : s < 4294967296) (hln : l.length = n) (hn : n ≤ 96) (hA : Sl w w.heap.size A l) :
    Calls Try.prog 20 #[.agg #[.int .i64 a, .int .i64 s, .slice A n c]] w fun e w' => (∃ X x, e = .returned (.slice X (n + 11) x) ∧ Lies w' X x (enc a s l)) ∧ Below w.heap.size w w' := by
  have h := ref_seal' a s n c _ A l _ _ _ w rfl rfl rfl rfl ha hs hln hn hA
  have e : enc a s l = le 1 n ++ l ++ le 2 a ++ le 4 s ++ le 4 (sum (le 1 n ++ l ++ le 2 a ++ le 4 s)) := by
    rw [← hln]
    unfold enc body
    simp only [List.append_assoc]
  rwa [← e] at h

theorem mod_minus (a N : Int) (w : World) (hN : 0 < N) (hN2 : N ≤ 1099511627776) (h : a.tmod N < 0) :
    Calls Try.prog 32 #[.int .i64 a, .int .i64 N] w fun e w' => e = .returned (.int .i64 (a.tmod N + N)) ∧ w = w' := by
  have hn0 : (N == 0) = false := beq_eq_false_iff_ne.2 (by omega)
  have h2 := (twice_mod a hN).2.1
  go_enter Try.func32, Try.ntmps32
  go_wp2
  go_ret
  exact ⟨rfl, rfl⟩
theorem mod_plus (a N : Int) (w : World) (hN : 0 < N) (hN2 : N ≤ 1099511627776) (h : ¬ a.tmod N < 0) :
    Calls Try.prog 32 #[.int .i64 a, .int .i64 N] w fun e w' => e = .returned (.int .i64 (a.tmod N)) ∧ w = w' := by
  have hn0 : (N == 0) = false := beq_eq_false_iff_ne.2 (by omega)
  go_enter Try.func32, Try.ntmps32
  go_wp2
  go_ret
  exact ⟨rfl, rfl⟩
theorem mod_all (a N : Int) (w : World) (hN : 0 < N) (hN2 : N ≤ 1099511627776) :
    Calls Try.prog 32 #[.int .i64 a, .int .i64 N] w fun e w' => e = .returned (.int .i64 (a % N)) ∧ w = w' := by
  obtain ⟨h1, h2, h3⟩ := twice_mod a hN
  by_cases h : a.tmod N < 0
  · have : a % N = a.tmod N + N := by rw [← h1]; exact Int.emod_eq_of_lt h2 (by omega)
    rw [this]
    exact mod_minus a N w hN hN2 h
  · have : a % N = a.tmod N := by
      rw [← h1, Int.add_emod_right]
      exact Int.emod_eq_of_lt (by omega) h3
    rw [this]
    exact mod_plus a N w hN hN2 h
end Go.Proofs.Ytajgkfcflbmkdaa.sel
