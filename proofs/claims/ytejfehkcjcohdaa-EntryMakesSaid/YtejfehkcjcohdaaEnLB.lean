/-
  The law EntryMakes, walked. Conditions: none.
-/
import Derived.Test.YtejfehkcjcohdaaEnD
import Derived.Test.YtejfehkcjcohdaaGGm
import Derived.StillTailTactics
namespace Go.Proofs.Ytejfehkcjcohdaa.ent
open Go.RowKit Go.Lib
open Go.Proofs.Ytejfehkcjcohdaa.gmt (Ok)
open Go.Proofs.Ytejfehkcjcohdaa.anc (bl kal kst ks bm ka)
open Go.Proofs.Ytejfehkcjcohdaa.sel (Three three_new Lies opened Opn no opened_err enc enc_opened open_any)
open Go.Proofs.Ytejfehkcjcohdaa.tbl (Ent EntOk entsN TV C1 c1_new G5 g5_new TbE)
open Go.Proofs.Ytejfehkcjcohdaa.sel (place maskOf place_lt mask_lt mask_odd FlipAns ref_flip_all)
set_option maxRecDepth 100000 in
set_option maxHeartbeats 8000000 in
theorem em_long (stamp other bit msk : Int) (A : Option Addr) (n c : Nat) (w : World) (h : ¬ (n = 8 ∧ 0 ≤ bit ∧ 0 ≤ msk)) :
    Calls Try.prog 6 #[.int .i64 stamp, .int .i64 other, .slice A n c, .int .i64 bit, .int .i64 msk] w fun e w' => e = .returned (.bool true) ∧ Below w.heap.size w w' := by
  have q : ((n : Int) != 8) = true ∨ (((n : Int) != 8) = false ∧ bit < 0) ∨ (((n : Int) != 8) = false ∧ 0 ≤ bit ∧ msk < 0) := by
    by_cases h1 : n = 8
    · refine .inr ?_
      have h2 : ((n : Int) != 8) = false := by rw [h1]; rfl
      by_cases h3 : bit < 0
      · exact .inl ⟨h2, h3⟩
      · exact .inr ⟨h2, by omega, by omega⟩
    · exact .inl (bne_iff_ne.2 (by omega))
  clear h
  go_enter Try.func6, Try.ntmps6
  rcases q with q | ⟨q, q2⟩ | ⟨q, q2, q3⟩
  all_goals
    go_wp2
    go_ret
    exact ⟨rfl, Below.refl _ _⟩
set_option maxRecDepth 100000 in
set_option maxHeartbeats 8000000 in
theorem em_main (stamp other bit msk : Int) (A : Option Addr) (c : Nat) (x : List UInt8) (w : World) (hxl : x.length = 8) (hbit : 0 ≤ bit) (hmsk : 0 ≤ msk) (hA : Sl w w.heap.size A x) :
    Calls Try.prog 6 #[.int .i64 stamp, .int .i64 other, .slice A 8 c, .int .i64 bit, .int .i64 msk] w fun e w' => e = .returned (.bool true) ∧ Below w.heap.size w w' := by
  have hs := gmt.wrap_mod stamp 4294967296 (by omega)
  have ho := gmt.wrap_mod other 4294967296 (by omega)
  generalize hS0 : (IntKind.u64.wrap stamp).tmod 4294967296 = s0 at *
  generalize hO0 : (IntKind.u64.wrap other).tmod 4294967296 = o0 at *
  have HXL := Lib.hid hxl
  have HXA := Lib.hid hA
  obtain ⟨S, hS⟩ : ∃ S : Nat, S = crc.sum x := ⟨_, rfl⟩
  have HSM := Lib.hid hS
  clear hxl hA hS
  have HFL := Lib.hid (ref_flip_all A c _ 8 x bit msk w HXL.out HXA.out (by decide))
  go_enter Try.func6, Try.ntmps6
  go_upto_region 4 with fail
  clear hS0 hO0
  go_upto_region 5 with (go_at_call 24; (with_reducible refine (HFL.out).mono ?_); rintro e w1 ⟨⟨out, ht, v, rfl, ho1⟩, hb1⟩)
  obtain ⟨X, xc, rfl, -, -, hsl, -⟩ := id ho1.form
  have hol : out.length = 8 := ht.1.trans HXL.out
  rw [hol]
  obtain ⟨V, hV⟩ : ∃ V : Nat, V = crc.sum out := ⟨_, rfl⟩
  have hne : S ≠ V := by rw [hV, HSM.out]; exact crc.turned_sum ht (by rw [HXL.out]; exact place_lt bit (by decide)) (mask_lt msk) (mask_odd msk)
  have q5 : ((S : Int) == (V : Int)) = false := beq_eq_false_iff_ne.2 (by omega)
  have q6 : ((S : Int) == (S : Int)) = true := beq_self_eq_true _
  have q7 : (s0 == s0) = true := beq_self_eq_true _
  have HVM := Lib.hid hV
  have HOL := Lib.hid hol
  have HOA := Lib.hid hsl
  have hx := hb1
  replace HXA := Lib.hid (HXA.out.next hb1)
  clear hol hV hne ht ho1 hsl hb1 HFL hbit hmsk
  have HMK1 := Lib.hid (mak_ok s0 A c x w1 (by omega) HXL.out HXA.out)
  rw [← HSM.out] at HMK1
  go_upto_region 6 with (go_at_call 12; (with_reducible refine (HMK1.out).mono ?_); rintro e v1 ⟨rfl, hb1⟩)
  have hxE1 := bl v1 (.cells #[.int .i64 s0, .int .i64 S, .bool false] 29)
  have E1 := three_new v1 (.int .i64 s0) (.int .i64 S) (.bool false) 29
  have l1 : v1.heap.size < (v1.alloc (.cells #[.int .i64 s0, .int .i64 S, .bool false] 29)).heap.size := by simp
  have hn1 := bt hb1 hxE1
  clear hb1 hxE1 HMK1
  generalize hg1 : v1.heap.size = g1 at *
  clear hg1
  generalize v1.alloc (.cells #[.int .i64 s0, .int .i64 S, .bool false] 29) = u1 at *
  have HXA2 := Lib.hid (HXA.out.next hn1)
  have HOA2 := Lib.hid (HOA.out.next hn1)
  have HMK2 := Lib.hid (mak_ok o0 A c x u1 (by omega) HXL.out HXA2.out)
  rw [← HSM.out] at HMK2
  go_upto_region 7 with (go_at_call 12; (with_reducible refine (HMK2.out).mono ?_); rintro e v2 ⟨rfl, hb2⟩)
  have hxE2 := bl v2 (.cells #[.int .i64 o0, .int .i64 S, .bool false] 29)
  have E2 := three_new v2 (.int .i64 o0) (.int .i64 S) (.bool false) 29
  have l2 : v2.heap.size < (v2.alloc (.cells #[.int .i64 o0, .int .i64 S, .bool false] 29)).heap.size := by simp
  have hn2 := bt hb2 hxE2
  clear hb2 hxE2 HMK2
  generalize hg2 : v2.heap.size = g2 at *
  clear hg2
  generalize v2.alloc (.cells #[.int .i64 o0, .int .i64 S, .bool false] 29) = u2 at *
  have HXA3 := Lib.hid (HXA2.out.next hn2)
  have HOA3 := Lib.hid (HOA2.out.next hn2)
  replace E1 := E1.keep hn2 l1
  have l1' := Nat.lt_of_lt_of_le l1 hn2.size
  have HMK3 := Lib.hid (mak_ok s0 X xc out u2 (by omega) HOL.out HOA3.out)
  rw [← HVM.out] at HMK3
  go_upto_region 8 with (go_at_call 12; (with_reducible refine (HMK3.out).mono ?_); rintro e v3 ⟨rfl, hb3⟩)
  have hxE3 := bl v3 (.cells #[.int .i64 s0, .int .i64 V, .bool false] 29)
  have E3 := three_new v3 (.int .i64 s0) (.int .i64 V) (.bool false) 29
  have l3 : v3.heap.size < (v3.alloc (.cells #[.int .i64 s0, .int .i64 V, .bool false] 29)).heap.size := by simp
  have hn3 := bt hb3 hxE3
  clear hb3 hxE3 HMK3
  generalize hg3 : v3.heap.size = g3 at *
  clear hg3
  generalize v3.alloc (.cells #[.int .i64 s0, .int .i64 V, .bool false] 29) = u3 at *
  replace E1 := E1.keep hn3 l1'
  replace E2 := E2.keep hn3 l2
  replace hx := bt hx (bt hn1 (bt hn2 hn3))
  have HXA4 := Lib.hid (HXA3.out.next hn3)
  have HSU := Lib.hid (show Calls Try.prog 25 #[.slice A (8 : Nat) c] u3.drew fun e w' => e = .returned (.int .i64 S) ∧ w' = u3.drew from by
    have h9 := crc.ref_sum A c _ x u3.drew (HXA4.out.next (below_dr (Below.refl _ _))) (by rw [HXL.out]; decide)
    rw [HXL.out, ← HSM.out] at h9
    exact h9.mono fun e w' h => ⟨h.1, h.2.symm⟩)
  clear hn1 hn2 hn3 HXA HXA2 HXA3 HOA HOA2 HOA3 HVM HOL l1 l1' l2 l3
  obtain ⟨a0, a1, a2, -, -, -⟩ := id E1
  obtain ⟨b0, b1, b2, -, -, -⟩ := id E2
  obtain ⟨c0, c1, c2, -, -, -⟩ := id E3
  have hq : (s0 == o0) = true ∨ (s0 == o0) = false := by cases (s0 == o0) <;> simp
  rcases hq with hq | hq
  all_goals
    go_still_tail 43, (by kernel_rfl)
    still_call HSU.out
    repeat still_step
    refine wpStill_nil ?_
    change wpList _ _ _ _ _ u3.drew
    have hxD := below_dr hx
    generalize u3.drew = u4 at *
    go_wp2_with (go_at_call 17; (with_reducible refine ((wk_ent _)).mono ?_); rintro e w9 ⟨rfl, hb9⟩)
    go_ret
    exact ⟨rfl, bt hxD hb9⟩
/-- The law. -/
theorem makes_law (stamp other bit msk : Int) (A : Option Addr) (n c : Nat) (x : List UInt8) (w : World) (hxl : x.length = n) (hA : Sl w w.heap.size A x) :
    Calls Try.prog 6 #[.int .i64 stamp, .int .i64 other, .slice A n c, .int .i64 bit, .int .i64 msk] w fun e w' => e = .returned (.bool true) ∧ Below w.heap.size w w' := by
  by_cases h : n = 8 ∧ 0 ≤ bit ∧ 0 ≤ msk
  · obtain ⟨rfl, h1, h2⟩ := h
    exact em_main stamp other bit msk A c x w hxl h1 h2 hA
  · exact em_long stamp other bit msk A n c w h
end Go.Proofs.Ytejfehkcjcohdaa.ent
