/-
  The law EntryOnly, walked. Conditions: none.
-/
import Derived.Test.YtejfehkcjcohdaaEnD
import Derived.Test.YtejfehkcjcohdaaGGm
namespace Go.Proofs.Ytejfehkcjcohdaa.ent
open Go.RowKit Go.Lib
open Go.Proofs.Ytejfehkcjcohdaa.gmt (Ok)
open Go.Proofs.Ytejfehkcjcohdaa.anc (bl kal kst ks bm ka)
open Go.Proofs.Ytejfehkcjcohdaa.sel (Three three_new Lies opened Opn no opened_err enc enc_opened open_any)
open Go.Proofs.Ytejfehkcjcohdaa.tbl (Ent EntOk entsN TV C1 c1_new G5 g5_new TbE)
set_option maxRecDepth 100000 in
set_option maxHeartbeats 8000000 in
theorem eo_long (addr stamp : Int) (A B : Option Addr) (n m c d : Nat) (w : World) (h : ¬ (n = 8 ∧ m = 8)) :
    Calls Try.prog 7 #[.int .i64 addr, .int .i64 stamp, .slice A n c, .slice B m d] w fun e w' => e = .returned (.bool true) ∧ Below w.heap.size w w' := by
  have q : ((n : Int) != 8) = true ∨ ((n : Int) != 8) = false ∧ ((m : Int) != 8) = true := by
    by_cases h1 : n = 8
    · exact .inr ⟨by rw [h1]; rfl, bne_iff_ne.2 fun k => h ⟨h1, by omega⟩⟩
    · exact .inl (bne_iff_ne.2 (by omega))
  clear h
  go_enter Try.func7, Try.ntmps7
  rcases q with q | ⟨q, q2⟩
  all_goals
    go_wp2
    go_ret
    exact ⟨rfl, Below.refl _ _⟩
set_option maxRecDepth 100000 in
set_option maxHeartbeats 8000000 in
theorem eo_true (addr stamp : Int) (A B : Option Addr) (c d : Nat) (x y : List UInt8) (w : World) (hxl : x.length = 8) (hyl : y.length = 8) (hA : Sl w w.heap.size A x) (hB : Sl w w.heap.size B y) (hc : crc.sum x = crc.sum y) :
    Calls Try.prog 7 #[.int .i64 addr, .int .i64 stamp, .slice A 8 c, .slice B 8 d] w fun e w' => e = .returned (.bool true) ∧ Below w.heap.size w w' := by
  have ha := gmt.wrap_mod addr 65536 (by omega)
  have hs := gmt.wrap_mod stamp 4294967296 (by omega)
  generalize hA0 : (IntKind.u64.wrap addr).tmod 65536 = a0 at *
  generalize hS0 : (IntKind.u64.wrap stamp).tmod 4294967296 = s0 at *
  have HXL := Lib.hid hxl
  have HYL := Lib.hid hyl
  have HXA := Lib.hid hA
  have HYB := Lib.hid hB
  clear hxl hyl hA hB
  obtain ⟨S, hS⟩ : ∃ S : Nat, S = crc.sum x := ⟨_, rfl⟩
  obtain ⟨U, hU⟩ : ∃ U : Nat, U = crc.sum y := ⟨_, rfl⟩
  rw [← hS, ← hU] at hc
  have HSM := Lib.hid hS
  have HUM := Lib.hid hU
  have HCC := Lib.hid hc
  have q1 : ((S : Int) == (U : Int)) = true := by rw [hc]; exact beq_self_eq_true _
  clear hS hU hc
  go_enter Try.func7, Try.ntmps7
  go_upto_region 4 with fail
  clear hA0 hS0
  have HMK := Lib.hid (mak_ok s0 A c x w (by omega) HXL.out HXA.out)
  rw [← HSM.out] at HMK
  go_upto_region 5 with (go_at_call 12; (with_reducible refine (HMK.out).mono ?_); rintro e w1 ⟨rfl, hb1⟩)
  have hxE := bl w1 (.cells #[.int .i64 s0, .int .i64 S, .bool false] 29)
  have TT := three_new w1 (.int .i64 s0) (.int .i64 S) (.bool false) 29
  have l1 : w1.heap.size < (w1.alloc (.cells #[.int .i64 s0, .int .i64 S, .bool false] 29)).heap.size := by simp
  have hx := bt hb1 hxE
  replace HXA := Lib.hid (HXA.out.next hx)
  replace HYB := Lib.hid (HYB.out.next hx)
  clear hb1 hxE HMK
  generalize w1.alloc (.cells #[.int .i64 s0, .int .i64 S, .bool false] 29) = w2 at *
  have HSL := Lib.hid (seal_c a0 s0 B 8 d 19 y w2 ha hs HYL.out (by omega) rfl HYB.out)
  go_upto_region 6 with (go_at_call 19; (with_reducible refine (HSL.out).mono ?_); rintro e w3 ⟨⟨X, xc, rfl, ho⟩, hb3⟩)
  replace TT := TT.keep hb3 l1
  replace l1 := Nat.lt_of_lt_of_le l1 hb3.size
  replace HXA := Lib.hid (HXA.out.next hb3)
  replace HYB := Lib.hid (HYB.out.next hb3)
  replace hx := bt hx hb3
  have HO := Lib.hid (ho.less (Nat.zero_le _))
  clear ho hb3 HSL
  have HBK := Lib.hid (show ∀ (b : Bool) W, Below w3.heap.size w3 W → Calls Try.prog 9 #[.agg #[.int .i64 0, .slice X 19 xc], .int .i64 a0, .agg #[.int .i64 s0, .int .i64 S, .bool b]] W fun e w' => BytB W.heap.size y true e w' ∧ Below W.heap.size W w' from fun b W hW => by
    have h9 := cell_c true a0 s0 a0 s0 S b X 19 xc y W ha hs (by rw [HYL.out]; decide) (HO.out.below hW) (iff_of_true rfl ⟨rfl, rfl, HYL.out, by rw [← HUM.out, HCC.out]⟩)
    exact h9)
  have HL : Hid ((y : List UInt8).length = 8) := Lib.hid HYL.out
  obtain ⟨t0, t1, t2, -, -, -⟩ := id TT
  go_upto_region 7 with (go_at_call 9; (with_reducible refine (HBK.out _ _ (Below.refl _ _)).mono ?_); rintro e w4 ⟨⟨Y, yc, rfl, ho4⟩, hb4⟩)
  replace TT := TT.keep hb4 l1
  replace l1 := Nat.lt_of_lt_of_le l1 hb4.size
  clear t0 t1 t2
  obtain ⟨t0, t1, t2, -, -, -⟩ := id TT
  go_upto_region 8 with fail
  have hxL := bl w4 (.cells #[.int .i64 s0, .int .i64 S, .bool false] 29)
  have TL := three_new w4 (.int .i64 s0) (.int .i64 S) (.bool false) 29
  have l2 : w4.heap.size < (w4.alloc (.cells #[.int .i64 s0, .int .i64 S, .bool false] 29)).heap.size := by simp
  have hb5 := bt hb4 hxL
  have HO4 := Lib.hid ((own_at ho4).2.2.2.below hxL)
  have lw := hb4.size
  clear t0 t1 t2 TT hxL hb4 ho4
  generalize hg4 : w4.heap.size = g4 at *
  clear hg4
  generalize w4.alloc (.cells #[.int .i64 s0, .int .i64 S, .bool false] 29) = w5 at *
  obtain ⟨t0, t1, t2, f0, f1, f2⟩ := id TL
  go_upto_region 9 with fail
  have hb6 : Below g4 w5 (w5.setCell ⟨g4, 2, none⟩ (.bool true)) := (Below.refl g4 w5).setCell (p := ⟨g4, 2, none⟩) (Nat.le_refl g4) _
  have u0 : (w5.setCell ⟨g4, 2, none⟩ (.bool true)).cell? ⟨g4, 0, none⟩ = some (.int .i64 s0) := by rw [World.cell?_setCell_other _ _ _ _ (by simp)]; exact t0
  have u1 : (w5.setCell ⟨g4, 2, none⟩ (.bool true)).cell? ⟨g4, 1, none⟩ = some (.int .i64 S) := by rw [World.cell?_setCell_other _ _ _ _ (by simp)]; exact t1
  have u2 : (w5.setCell ⟨g4, 2, none⟩ (.bool true)).cell? ⟨g4, 2, none⟩ = some (.bool true) := World.cell?_setCell_same _ _ _ t2
  have b36 := hb5.trans (hb6.mono lw)
  have hx6 := bt hx b36
  have HXS := Lib.hid ((HXA.out.next b36))
  have HYS := Lib.hid ((HYB.out.next b36))
  have HO6 := Lib.hid (HO4.out.below hb6)
  have lg : g4 < (w5.setCell ⟨g4, 2, none⟩ (.bool true)).heap.size := by simpa using l2
  clear t0 t1 t2 f0 f1 f2 TL l2 hb5 hb6 HXA HYB HO4 hx lw
  generalize w5.setCell ⟨g4, 2, none⟩ (.bool true) = w6 at *
  have HB9 := Lib.hid (HBK.out true w6 b36)
  clear HBK b36 HO
  go_upto_region 10 with (go_at_call 9; (with_reducible refine (HB9.out).mono ?_); rintro e w7 ⟨⟨Z, zc, rfl, ho7⟩, hb7⟩)
  have hx7 := bt hx6 hb7
  have HXS := Lib.hid (HXS.out.next hb7)
  have HYS := Lib.hid (HYS.out.next hb7)
  have HSX := Lib.hid (show Calls Try.prog 25 #[.slice A (8 : Nat) c] w7 fun e w' => e = .returned (.int .i64 S) ∧ w7 = w' from by
    have h9 := crc.ref_sum A c _ x w7 HXS.out (by rw [HXL.out]; decide)
    rw [HXL.out, ← HSM.out] at h9
    exact h9)
  have HSY := Lib.hid (show Calls Try.prog 25 #[.slice B (8 : Nat) d] w7 fun e w' => e = .returned (.int .i64 U) ∧ w7 = w' from by
    have h9 := crc.ref_sum B d _ y w7 HYS.out (by rw [HYL.out]; decide)
    rw [HYL.out, ← HUM.out] at h9
    exact h9)
  have HYL7 := Lib.hid ((HO6.out.below (hb7.mono (Nat.le_of_lt lg))).more (Nat.le_trans (Nat.le_of_lt lg) hb7.size))
  have HKB := Lib.hid (keep_c true Y Z 8 8 yc zc y y w7 HL.out HL.out (by decide) HYL7.out (own_at ho7).2.2.2 (iff_of_true rfl rfl))
  have hl := HL.out
  go_upto_region 12 with (first
    | (go_at_call 25; (with_reducible refine (HSX.out).mono ?_); rintro e w8 ⟨rfl, rfl⟩)
    | (go_at_call 25; (with_reducible refine (HSY.out).mono ?_); rintro e w8 ⟨rfl, rfl⟩)
    | (go_at_call 13; (with_reducible refine (HKB.out).mono ?_); rintro e w8 ⟨rfl, hb8⟩))
  have hx8 := bt hx7 hb8
  have HKC := Lib.hid (keep_c true Y B 8 8 yc d y y w8 HYL.out HYL.out (by decide) (HYL7.out.next hb8) (HYS.out.next hb8) (iff_of_true rfl rfl))
  go_wp2_with (first
    | (go_at_call 13; (with_reducible refine (HKC.out).mono ?_); rintro e w9 ⟨rfl, hb9⟩)
    | (go_at_call 17; (with_reducible refine ((wk_ent _)).mono ?_); rintro e w10 ⟨rfl, hb10⟩))
  go_ret
  exact ⟨rfl, bt hx8 (bt hb9 hb10)⟩
set_option maxRecDepth 100000 in
set_option maxHeartbeats 8000000 in
theorem eo_false (addr stamp : Int) (A B : Option Addr) (c d : Nat) (x y : List UInt8) (w : World) (hxl : x.length = 8) (hyl : y.length = 8) (hA : Sl w w.heap.size A x) (hB : Sl w w.heap.size B y) (hc : ¬ crc.sum x = crc.sum y) :
    Calls Try.prog 7 #[.int .i64 addr, .int .i64 stamp, .slice A 8 c, .slice B 8 d] w fun e w' => e = .returned (.bool true) ∧ Below w.heap.size w w' := by
  have ha := gmt.wrap_mod addr 65536 (by omega)
  have hs := gmt.wrap_mod stamp 4294967296 (by omega)
  generalize hA0 : (IntKind.u64.wrap addr).tmod 65536 = a0 at *
  generalize hS0 : (IntKind.u64.wrap stamp).tmod 4294967296 = s0 at *
  have HXL := Lib.hid hxl
  have HYL := Lib.hid hyl
  have HXA := Lib.hid hA
  have HYB := Lib.hid hB
  clear hxl hyl hA hB
  obtain ⟨S, hS⟩ : ∃ S : Nat, S = crc.sum x := ⟨_, rfl⟩
  obtain ⟨U, hU⟩ : ∃ U : Nat, U = crc.sum y := ⟨_, rfl⟩
  rw [← hS, ← hU] at hc
  have HSM := Lib.hid hS
  have HUM := Lib.hid hU
  have HCC := Lib.hid hc
  have q1 : ((S : Int) == (U : Int)) = false := by exact beq_eq_false_iff_ne.2 (by omega)
  clear hS hU hc
  go_enter Try.func7, Try.ntmps7
  go_upto_region 4 with fail
  clear hA0 hS0
  have HMK := Lib.hid (mak_ok s0 A c x w (by omega) HXL.out HXA.out)
  rw [← HSM.out] at HMK
  go_upto_region 5 with (go_at_call 12; (with_reducible refine (HMK.out).mono ?_); rintro e w1 ⟨rfl, hb1⟩)
  have hxE := bl w1 (.cells #[.int .i64 s0, .int .i64 S, .bool false] 29)
  have TT := three_new w1 (.int .i64 s0) (.int .i64 S) (.bool false) 29
  have l1 : w1.heap.size < (w1.alloc (.cells #[.int .i64 s0, .int .i64 S, .bool false] 29)).heap.size := by simp
  have hx := bt hb1 hxE
  replace HXA := Lib.hid (HXA.out.next hx)
  replace HYB := Lib.hid (HYB.out.next hx)
  clear hb1 hxE HMK
  generalize w1.alloc (.cells #[.int .i64 s0, .int .i64 S, .bool false] 29) = w2 at *
  have HSL := Lib.hid (seal_c a0 s0 B 8 d 19 y w2 ha hs HYL.out (by omega) rfl HYB.out)
  go_upto_region 6 with (go_at_call 19; (with_reducible refine (HSL.out).mono ?_); rintro e w3 ⟨⟨X, xc, rfl, ho⟩, hb3⟩)
  replace TT := TT.keep hb3 l1
  replace l1 := Nat.lt_of_lt_of_le l1 hb3.size
  replace HXA := Lib.hid (HXA.out.next hb3)
  replace HYB := Lib.hid (HYB.out.next hb3)
  replace hx := bt hx hb3
  have HO := Lib.hid (ho.less (Nat.zero_le _))
  clear ho hb3 HSL
  have HBK := Lib.hid (show ∀ (b : Bool) W, Below w3.heap.size w3 W → Calls Try.prog 9 #[.agg #[.int .i64 0, .slice X 19 xc], .int .i64 a0, .agg #[.int .i64 s0, .int .i64 S, .bool b]] W fun e w' => BytB W.heap.size ([] : List UInt8) false e w' ∧ Below W.heap.size W w' from fun b W hW => by
    have h9 := cell_c false a0 s0 a0 s0 S b X 19 xc y W ha hs (by rw [HYL.out]; decide) (HO.out.below hW) (iff_of_false Bool.false_ne_true fun h => by have := h.2.2.2; rw [← HUM.out] at this; exact HCC.out (by omega))
    exact h9)
  have HL : Hid ((([] : List UInt8) : List UInt8).length = 0) := Lib.hid rfl
  obtain ⟨t0, t1, t2, -, -, -⟩ := id TT
  go_upto_region 7 with (go_at_call 9; (with_reducible refine (HBK.out _ _ (Below.refl _ _)).mono ?_); rintro e w4 ⟨⟨Y, yc, rfl, ho4⟩, hb4⟩)
  replace TT := TT.keep hb4 l1
  replace l1 := Nat.lt_of_lt_of_le l1 hb4.size
  clear t0 t1 t2
  obtain ⟨t0, t1, t2, -, -, -⟩ := id TT
  go_upto_region 8 with fail
  have hxL := bl w4 (.cells #[.int .i64 s0, .int .i64 S, .bool false] 29)
  have TL := three_new w4 (.int .i64 s0) (.int .i64 S) (.bool false) 29
  have l2 : w4.heap.size < (w4.alloc (.cells #[.int .i64 s0, .int .i64 S, .bool false] 29)).heap.size := by simp
  have hb5 := bt hb4 hxL
  have HO4 := Lib.hid ((own_at ho4).2.2.2.below hxL)
  have lw := hb4.size
  clear t0 t1 t2 TT hxL hb4 ho4
  generalize hg4 : w4.heap.size = g4 at *
  clear hg4
  generalize w4.alloc (.cells #[.int .i64 s0, .int .i64 S, .bool false] 29) = w5 at *
  obtain ⟨t0, t1, t2, f0, f1, f2⟩ := id TL
  go_upto_region 9 with fail
  have hb6 : Below g4 w5 (w5.setCell ⟨g4, 2, none⟩ (.bool true)) := (Below.refl g4 w5).setCell (p := ⟨g4, 2, none⟩) (Nat.le_refl g4) _
  have u0 : (w5.setCell ⟨g4, 2, none⟩ (.bool true)).cell? ⟨g4, 0, none⟩ = some (.int .i64 s0) := by rw [World.cell?_setCell_other _ _ _ _ (by simp)]; exact t0
  have u1 : (w5.setCell ⟨g4, 2, none⟩ (.bool true)).cell? ⟨g4, 1, none⟩ = some (.int .i64 S) := by rw [World.cell?_setCell_other _ _ _ _ (by simp)]; exact t1
  have u2 : (w5.setCell ⟨g4, 2, none⟩ (.bool true)).cell? ⟨g4, 2, none⟩ = some (.bool true) := World.cell?_setCell_same _ _ _ t2
  have b36 := hb5.trans (hb6.mono lw)
  have hx6 := bt hx b36
  have HXS := Lib.hid ((HXA.out.next b36))
  have HYS := Lib.hid ((HYB.out.next b36))
  have HO6 := Lib.hid (HO4.out.below hb6)
  have lg : g4 < (w5.setCell ⟨g4, 2, none⟩ (.bool true)).heap.size := by simpa using l2
  clear t0 t1 t2 f0 f1 f2 TL l2 hb5 hb6 HXA HYB HO4 hx lw
  generalize w5.setCell ⟨g4, 2, none⟩ (.bool true) = w6 at *
  have HB9 := Lib.hid (HBK.out true w6 b36)
  clear HBK b36 HO
  go_upto_region 10 with (go_at_call 9; (with_reducible refine (HB9.out).mono ?_); rintro e w7 ⟨⟨Z, zc, rfl, ho7⟩, hb7⟩)
  have hx7 := bt hx6 hb7
  have HXS := Lib.hid (HXS.out.next hb7)
  have HYS := Lib.hid (HYS.out.next hb7)
  have HSX := Lib.hid (show Calls Try.prog 25 #[.slice A (8 : Nat) c] w7 fun e w' => e = .returned (.int .i64 S) ∧ w7 = w' from by
    have h9 := crc.ref_sum A c _ x w7 HXS.out (by rw [HXL.out]; decide)
    rw [HXL.out, ← HSM.out] at h9
    exact h9)
  have HSY := Lib.hid (show Calls Try.prog 25 #[.slice B (8 : Nat) d] w7 fun e w' => e = .returned (.int .i64 U) ∧ w7 = w' from by
    have h9 := crc.ref_sum B d _ y w7 HYS.out (by rw [HYL.out]; decide)
    rw [HYL.out, ← HUM.out] at h9
    exact h9)
  have HYL7 := Lib.hid ((HO6.out.below (hb7.mono (Nat.le_of_lt lg))).more (Nat.le_trans (Nat.le_of_lt lg) hb7.size))
  have HKB := Lib.hid (keep_c true Y Z 0 0 yc zc ([] : List UInt8) ([] : List UInt8) w7 HL.out HL.out (by decide) HYL7.out (own_at ho7).2.2.2 (iff_of_true rfl rfl))
  have hl := HL.out
  go_upto_region 12 with (first
    | (go_at_call 25; (with_reducible refine (HSX.out).mono ?_); rintro e w8 ⟨rfl, rfl⟩)
    | (go_at_call 25; (with_reducible refine (HSY.out).mono ?_); rintro e w8 ⟨rfl, rfl⟩)
    | (go_at_call 13; (with_reducible refine (HKB.out).mono ?_); rintro e w8 ⟨rfl, hb8⟩))
  have hx8 := bt hx7 hb8
  go_wp2_with (go_at_call 17; (with_reducible refine ((wk_ent _)).mono ?_); rintro e w10 ⟨rfl, hb10⟩)
  go_ret
  exact ⟨rfl, bt hx8 hb10⟩
/-- The law. -/
theorem only_law (addr stamp : Int) (A B : Option Addr) (n m c d : Nat) (x y : List UInt8) (w : World) (hxl : x.length = n) (hyl : y.length = m) (hA : Sl w w.heap.size A x) (hB : Sl w w.heap.size B y) :
    Calls Try.prog 7 #[.int .i64 addr, .int .i64 stamp, .slice A n c, .slice B m d] w fun e w' => e = .returned (.bool true) ∧ Below w.heap.size w w' := by
  by_cases h : n = 8 ∧ m = 8
  · obtain ⟨rfl, rfl⟩ := h
    by_cases hc : crc.sum x = crc.sum y
    · exact eo_true addr stamp A B c d x y w hxl hyl hA hB hc
    · exact eo_false addr stamp A B c d x y w hxl hyl hA hB hc
  · exact eo_long addr stamp A B n m c d w h
end Go.Proofs.Ytejfehkcjcohdaa.ent
