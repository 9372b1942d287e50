/-
  PairOthers: what is not the record that is looked for. Conditions: 'Cpr', the laws' example.
-/
import Derived.Test.YtpcadoekhoediaaDoorGPp
import Derived.Test.YtpcadoekhoediaaDoorGAu
import Derived.Test.YtpcadoekhoediaaDoorGGm
import Derived.Test.YtpcadoekhoediaaDoorRcLB
import Derived.IntWalk
namespace Go.Proofs.YtpcadoekhoediaaDoor.prr
open Go.RowKit Go.Lib
open Go.Proofs.YtpcadoekhoediaaDoor.gmt (Ok)
open Go.Proofs.YtpcadoekhoediaaDoor.anc (AV AC ac_new bl kal kst ks bm ka HeavyA heavy_any)
open Go.Proofs.YtpcadoekhoediaaDoor.lrc (Rcd RcR C8 c8_new)

theorem wrap_modL (i M : Int) (hM : 0 < M) : ∃ a : Nat, (a : Int) < M ∧ (IntKind.u64.wrap i).tmod M = (a : Int) := by
  obtain ⟨h1, h2⟩ := gmt.wrap_mod i M hM
  exact ⟨((IntKind.u64.wrap i).tmod M).toNat, by omega, by omega⟩
set_option maxRecDepth 100000 in
set_option maxHeartbeats 8000000 in
theorem others_heavy (x : AV) (q0 at0 of0 how n0 : Int) (w : World) (hx : x.In w w.heap.size) (hh : HeavyA x.d) :
    Calls Tryd.prog 4 #[.agg #[.int .i64 x.gen, .int .i64 x.ep, .int .i64 x.pos, .int .i64 x.seq, .int .i64 x.last, .string x.lab, .slice x.HA x.hs.length x.hc], .int .i64 q0, .int .i64 at0, .int .i64 of0, .int .i64 how, .int .i64 n0] w fun e w' => e = .returned (.bool true) ∧ Below w.heap.size w w' := by
  have cH := fun W (hW : Below w.heap.size w W) => heavy_any true x W (hx.next hW) (iff_of_true rfl hh)
  unfold AV.v at *
  have FF := ac_new w x
  have hb0 := bl w (.cells #[.int .i64 x.gen, .int .i64 x.ep, .int .i64 x.pos, .int .i64 x.seq, .int .i64 x.last, .string x.lab, .slice x.HA x.hs.length x.hc] 26)
  clear hx hh
  go_enter Tryd.func4, Tryd.ntmps4
  go_upto_region 1 with fail
  generalize w.alloc (.cells #[.int .i64 x.gen, .int .i64 x.ep, .int .i64 x.pos, .int .i64 x.seq, .int .i64 x.last, .string x.lab, .slice x.HA x.hs.length x.hc] 26) = w0 at *
  obtain ⟨c0, c1, c2, c3, c4, c5, c6⟩ := id FF
  go_wp2_with (go_at_call 5; (with_reducible refine (cH _ hb0).mono ?_); rintro e wq ⟨rfl, hbq⟩)
  go_ret
  exact ⟨rfl, bt hb0 hbq⟩
set_option maxRecDepth 100000 in
set_option maxHeartbeats 8000000 in
theorem others_0 (x : AV) (q0 at0 of0 how n0 : Int) (w : World) (hc : Cpr w) (hk : ∀ W, Below w.heap.size w W → Calls Tryd.prog 11 #[] W fun e w' => e = .returned (.bool true) ∧ Below W.heap.size W w') (hx : x.In w w.heap.size) (hh : ¬ HeavyA x.d) (hm : (IntKind.u64.wrap how).tmod 5 = 0) :
    Calls Tryd.prog 4 #[.agg #[.int .i64 x.gen, .int .i64 x.ep, .int .i64 x.pos, .int .i64 x.seq, .int .i64 x.last, .string x.lab, .slice x.HA x.hs.length x.hc], .int .i64 q0, .int .i64 at0, .int .i64 of0, .int .i64 how, .int .i64 n0] w fun e w' => e = .returned (.bool true) ∧ Below w.heap.size w w' := by
  have HC := Lib.hid hc
  have HK := Lib.hid hk
  have cH := fun W (hW : Below w.heap.size w W) => heavy_any false x W (hx.next hW) (iff_of_false Bool.false_ne_true hh)
  obtain ⟨SQ, sq1, sq2⟩ := wrap_modL q0 1000 (by decide)
  obtain ⟨AT, at1, at2⟩ := wrap_modL at0 10 (by decide)
  obtain ⟨N9, n91, n92⟩ := wrap_modL n0 10 (by decide)
  obtain ⟨O9, o91, o92⟩ := wrap_modL of0 10 (by decide)
  obtain ⟨OF, hOF⟩ : ∃ OF : Int, (AT : Int) + 1 + (O9 : Int) = OF := ⟨_, rfl⟩
  have of1 : 1 ≤ OF ∧ OF ≤ 19 := by omega
  have v1 : IntKind.i64.wrap (SQ : Int) = (SQ : Int) := IntWalk.i64_in _ (by omega)
  have v2 : IntKind.i64.wrap (AT : Int) = (AT : Int) := IntWalk.i64_in _ (by omega)
  have v3 : IntKind.i64.wrap (N9 : Int) = (N9 : Int) := IntWalk.i64_in _ (by omega)
  have v4 : IntKind.i64.wrap (O9 : Int) = (O9 : Int) := IntWalk.i64_in _ (by omega)
  have v5 : IntKind.i64.wrap (1 + (N9 : Int)) = 1 + (N9 : Int) := IntWalk.i64_in _ (by omega)
  have v6 : IntKind.i64.wrap ((AT : Int) + 1) = (AT : Int) + 1 := IntWalk.i64_in _ (by omega)
  have v7 : IntKind.i64.wrap ((AT : Int) + 1 + (O9 : Int)) = OF := by rw [hOF]; exact IntWalk.i64_in _ (by omega)
  have v8 : IntKind.i64.wrap ((SQ : Int) + (1 + (N9 : Int))) = (SQ : Int) + (1 + (N9 : Int)) := IntWalk.i64_in _ (by omega)
  have v9 : IntKind.i64.wrap ((AT : Int) + (1 + (N9 : Int))) = (AT : Int) + (1 + (N9 : Int)) := IntWalk.i64_in _ (by omega)
  have v10 : IntKind.i64.wrap (OF + (1 + (N9 : Int))) = OF + (1 + (N9 : Int)) := IntWalk.i64_in _ (by omega)
  have v11 : IntKind.i64.wrap (OF - 1) = OF - 1 := IntWalk.i64_in _ (by omega)
  have HI1 := Lib.hid (show ∀ W, Below w.heap.size w W → Calls Tryd.prog 8 #[.agg #[.int .i64 1, .int .i64 (SQ : Int), .int .i64 x.ep, .int .i64 (AT : Int), .int .i64 OF, .int .i64 0, .int .i64 0, .slice none 0 0], .agg #[.int .i64 x.gen, .int .i64 x.ep, .int .i64 x.pos, .int .i64 x.seq, .int .i64 x.last, .string x.lab, .slice x.HA x.hs.length x.hc], .int .i64 (SQ : Int), .int .i64 (AT : Int), .int .i64 OF, .int .i64 0] W fun e w' => e = .returned (.bool true) ∧ Below W.heap.size W w' from fun W hW => HC.out.is true ⟨1, (SQ : Int), x.ep, (AT : Int), OF, ⟨0, 0, none, 0, []⟩⟩ 0 x (SQ : Int) (AT : Int) OF 0 W hW (fun _ _ q => absurd q (by show ¬ OF = 0; omega)) (iff_of_true rfl ⟨by show (1 : Int) ≠ 0; decide, rfl, rfl, fun _ => rfl, fun h => absurd h (by omega), .inl rfl⟩))
  have HI2 := Lib.hid (show ∀ W, Below w.heap.size w W → Calls Tryd.prog 8 #[.agg #[.int .i64 1, .int .i64 (SQ : Int), .int .i64 x.ep, .int .i64 (AT : Int), .int .i64 OF, .int .i64 0, .int .i64 0, .slice none 0 0], .agg #[.int .i64 x.gen, .int .i64 x.ep, .int .i64 x.pos, .int .i64 x.seq, .int .i64 x.last, .string x.lab, .slice x.HA x.hs.length x.hc], .int .i64 (SQ : Int), .int .i64 (AT : Int), .int .i64 0, .int .i64 OF] W fun e w' => e = .returned (.bool true) ∧ Below W.heap.size W w' from fun W hW => HC.out.is true ⟨1, (SQ : Int), x.ep, (AT : Int), OF, ⟨0, 0, none, 0, []⟩⟩ 0 x (SQ : Int) (AT : Int) 0 OF W hW (fun _ _ q => absurd q (by show ¬ OF = 0; omega)) (iff_of_true rfl ⟨by show (1 : Int) ≠ 0; decide, rfl, rfl, fun h => absurd rfl h, fun _ => Int.le_refl _, .inl rfl⟩))
  have HI3 := Lib.hid (show ∀ W, Below w.heap.size w W → Calls Tryd.prog 8 #[.agg #[.int .i64 1, .int .i64 (SQ : Int), .int .i64 x.ep, .int .i64 (AT : Int), .int .i64 OF, .int .i64 0, .int .i64 0, .slice none 0 0], .agg #[.int .i64 x.gen, .int .i64 x.ep, .int .i64 x.pos, .int .i64 x.seq, .int .i64 x.last, .string x.lab, .slice x.HA x.hs.length x.hc], .int .i64 ((SQ : Int) + (1 + (N9 : Int))), .int .i64 (AT : Int), .int .i64 OF, .int .i64 0] W fun e w' => e = .returned (.bool false) ∧ Below W.heap.size W w' from fun W hW => HC.out.is false ⟨1, (SQ : Int), x.ep, (AT : Int), OF, ⟨0, 0, none, 0, []⟩⟩ 0 x ((SQ : Int) + (1 + (N9 : Int))) (AT : Int) OF 0 W hW (fun _ _ q => absurd q (by show ¬ OF = 0; omega)) (iff_of_false Bool.false_ne_true fun h => absurd h.2.1 (by show ¬ (SQ : Int) = (SQ : Int) + (1 + (N9 : Int)); omega)))
  unfold AV.v at *
  have FF := ac_new w x
  have hb0 := bl w (.cells #[.int .i64 x.gen, .int .i64 x.ep, .int .i64 x.pos, .int .i64 x.seq, .int .i64 x.last, .string x.lab, .slice x.HA x.hs.length x.hc] 26)
  have l0 : w.heap.size < (w.alloc (.cells #[.int .i64 x.gen, .int .i64 x.ep, .int .i64 x.pos, .int .i64 x.seq, .int .i64 x.last, .string x.lab, .slice x.HA x.hs.length x.hc] 26)).heap.size := by simp
  clear hx hh hc hk hOF
  go_enter Tryd.func4, Tryd.ntmps4
  go_upto_region 1 with fail
  generalize w.alloc (.cells #[.int .i64 x.gen, .int .i64 x.ep, .int .i64 x.pos, .int .i64 x.seq, .int .i64 x.last, .string x.lab, .slice x.HA x.hs.length x.hc] 26) = w0 at *
  obtain ⟨c0, c1, c2, c3, c4, c5, c6⟩ := id FF
  go_upto_region 3 with (go_at_call 5; (with_reducible refine (cH _ hb0).mono ?_); rintro e w1 ⟨rfl, hb1⟩)
  have F1 := FF.keep hb1 l0
  have hw1 := bt hb0 hb1
  have l1 := Nat.lt_of_lt_of_le l0 hb1.size
  clear c0 c1 c2 c3 c4 c5 c6 FF cH
  obtain ⟨c0, c1, c2, c3, c4, c5, c6⟩ := id F1
  go_upto_region 6 with fail
  have R1 := c8_new w1 (.int .i64 1) (.int .i64 (SQ : Int)) (.int .i64 x.ep) (.int .i64 (AT : Int)) (.int .i64 OF) (.int .i64 0) (.int .i64 0) (.slice none 0 0) 35
  have hb2 := kal hw1 (.cells #[.int .i64 1, .int .i64 (SQ : Int), .int .i64 x.ep, .int .i64 (AT : Int), .int .i64 OF, .int .i64 0, .int .i64 0, .slice none 0 0] 35)
  have lr : w1.heap.size < (w1.alloc (.cells #[.int .i64 1, .int .i64 (SQ : Int), .int .i64 x.ep, .int .i64 (AT : Int), .int .i64 OF, .int .i64 0, .int .i64 0, .slice none 0 0] 35)).heap.size := by simp
  have F2 := F1.keep (bl w1 (.cells #[.int .i64 1, .int .i64 (SQ : Int), .int .i64 x.ep, .int .i64 (AT : Int), .int .i64 OF, .int .i64 0, .int .i64 0, .slice none 0 0] 35)) l1
  have l2 : w.heap.size < (w1.alloc (.cells #[.int .i64 1, .int .i64 (SQ : Int), .int .i64 x.ep, .int .i64 (AT : Int), .int .i64 OF, .int .i64 0, .int .i64 0, .slice none 0 0] 35)).heap.size := by omega
  clear c0 c1 c2 c3 c4 c5 c6
  obtain ⟨gr, hgr⟩ : ∃ gr, gr = w1.heap.size := ⟨_, rfl⟩
  rw [← hgr] at R1 lr ⊢
  have hwr : w.heap.size ≤ gr := by rw [hgr]; exact hw1.size
  clear hgr
  generalize w1.alloc (.cells #[.int .i64 1, .int .i64 (SQ : Int), .int .i64 x.ep, .int .i64 (AT : Int), .int .i64 OF, .int .i64 0, .int .i64 0, .slice none 0 0] 35) = w2 at *
  have HM := Lib.hid (show ∀ W, Below w2.heap.size w2 W → AC W w.heap.size x ∧ C8 W gr (.int .i64 1) (.int .i64 (SQ : Int)) (.int .i64 x.ep) (.int .i64 (AT : Int)) (.int .i64 OF) (.int .i64 0) (.int .i64 0) (.slice none 0 0) from fun W hW => ⟨F2.keep hW l2, R1.keep hW lr⟩)
  obtain ⟨c0, c1, c2, c3, c4, c5, c6⟩ := id F2
  obtain ⟨r0, r1, r2, r3, r4, r5, r6, r7⟩ := id R1
  have b9 := Below.refl w2.heap.size w2
  go_upto_region 8 with (first
    | (go_at_call 8; (with_reducible refine (HI1.out _ (bt hb2 b9)).mono ?_); rintro e w9 ⟨rfl, hbq⟩; (replace b9 := bt b9 hbq); (clear c0 c1 c2 c3 c4 c5 c6 r0 r1 r2 r3 r4 r5 r6 r7); (obtain ⟨⟨c0, c1, c2, c3, c4, c5, c6⟩, ⟨r0, r1, r2, r3, r4, r5, r6, r7⟩⟩ := HM.out _ b9); clear hbq)
    | (go_at_call 8; (with_reducible refine (HI2.out _ (bt hb2 b9)).mono ?_); rintro e w9 ⟨rfl, hbq⟩; (replace b9 := bt b9 hbq); (clear c0 c1 c2 c3 c4 c5 c6 r0 r1 r2 r3 r4 r5 r6 r7); (obtain ⟨⟨c0, c1, c2, c3, c4, c5, c6⟩, ⟨r0, r1, r2, r3, r4, r5, r6, r7⟩⟩ := HM.out _ b9); clear hbq)
    | fail)
  go_wp2_with (first
    | (go_at_call 8; (with_reducible refine (HI3.out _ (bt hb2 b9)).mono ?_); rintro e w9 ⟨rfl, hbq⟩; (replace b9 := bt b9 hbq); (clear c0 c1 c2 c3 c4 c5 c6 r0 r1 r2 r3 r4 r5 r6 r7); (obtain ⟨⟨c0, c1, c2, c3, c4, c5, c6⟩, ⟨r0, r1, r2, r3, r4, r5, r6, r7⟩⟩ := HM.out _ b9); clear hbq)
    | (go_at_call 11; (with_reducible refine (HK.out _ (bt hb2 b9)).mono ?_); rintro e w8 ⟨rfl, hb8⟩)
    | fail)
  go_ret
  exact ⟨rfl, bt (bt hb2 b9) hb8⟩
set_option maxRecDepth 100000 in
set_option maxHeartbeats 8000000 in
theorem others_1 (x : AV) (q0 at0 of0 how n0 : Int) (w : World) (hc : Cpr w) (hk : ∀ W, Below w.heap.size w W → Calls Tryd.prog 11 #[] W fun e w' => e = .returned (.bool true) ∧ Below W.heap.size W w') (hx : x.In w w.heap.size) (hh : ¬ HeavyA x.d) (hm : (IntKind.u64.wrap how).tmod 5 = 1) :
    Calls Tryd.prog 4 #[.agg #[.int .i64 x.gen, .int .i64 x.ep, .int .i64 x.pos, .int .i64 x.seq, .int .i64 x.last, .string x.lab, .slice x.HA x.hs.length x.hc], .int .i64 q0, .int .i64 at0, .int .i64 of0, .int .i64 how, .int .i64 n0] w fun e w' => e = .returned (.bool true) ∧ Below w.heap.size w w' := by
  have HC := Lib.hid hc
  have HK := Lib.hid hk
  have cH := fun W (hW : Below w.heap.size w W) => heavy_any false x W (hx.next hW) (iff_of_false Bool.false_ne_true hh)
  obtain ⟨SQ, sq1, sq2⟩ := wrap_modL q0 1000 (by decide)
  obtain ⟨AT, at1, at2⟩ := wrap_modL at0 10 (by decide)
  obtain ⟨N9, n91, n92⟩ := wrap_modL n0 10 (by decide)
  obtain ⟨O9, o91, o92⟩ := wrap_modL of0 10 (by decide)
  obtain ⟨OF, hOF⟩ : ∃ OF : Int, (AT : Int) + 1 + (O9 : Int) = OF := ⟨_, rfl⟩
  have of1 : 1 ≤ OF ∧ OF ≤ 19 := by omega
  have v1 : IntKind.i64.wrap (SQ : Int) = (SQ : Int) := IntWalk.i64_in _ (by omega)
  have v2 : IntKind.i64.wrap (AT : Int) = (AT : Int) := IntWalk.i64_in _ (by omega)
  have v3 : IntKind.i64.wrap (N9 : Int) = (N9 : Int) := IntWalk.i64_in _ (by omega)
  have v4 : IntKind.i64.wrap (O9 : Int) = (O9 : Int) := IntWalk.i64_in _ (by omega)
  have v5 : IntKind.i64.wrap (1 + (N9 : Int)) = 1 + (N9 : Int) := IntWalk.i64_in _ (by omega)
  have v6 : IntKind.i64.wrap ((AT : Int) + 1) = (AT : Int) + 1 := IntWalk.i64_in _ (by omega)
  have v7 : IntKind.i64.wrap ((AT : Int) + 1 + (O9 : Int)) = OF := by rw [hOF]; exact IntWalk.i64_in _ (by omega)
  have v8 : IntKind.i64.wrap ((SQ : Int) + (1 + (N9 : Int))) = (SQ : Int) + (1 + (N9 : Int)) := IntWalk.i64_in _ (by omega)
  have v9 : IntKind.i64.wrap ((AT : Int) + (1 + (N9 : Int))) = (AT : Int) + (1 + (N9 : Int)) := IntWalk.i64_in _ (by omega)
  have v10 : IntKind.i64.wrap (OF + (1 + (N9 : Int))) = OF + (1 + (N9 : Int)) := IntWalk.i64_in _ (by omega)
  have v11 : IntKind.i64.wrap (OF - 1) = OF - 1 := IntWalk.i64_in _ (by omega)
  have HI1 := Lib.hid (show ∀ W, Below w.heap.size w W → Calls Tryd.prog 8 #[.agg #[.int .i64 1, .int .i64 (SQ : Int), .int .i64 x.ep, .int .i64 (AT : Int), .int .i64 OF, .int .i64 0, .int .i64 0, .slice none 0 0], .agg #[.int .i64 x.gen, .int .i64 x.ep, .int .i64 x.pos, .int .i64 x.seq, .int .i64 x.last, .string x.lab, .slice x.HA x.hs.length x.hc], .int .i64 (SQ : Int), .int .i64 (AT : Int), .int .i64 OF, .int .i64 0] W fun e w' => e = .returned (.bool true) ∧ Below W.heap.size W w' from fun W hW => HC.out.is true ⟨1, (SQ : Int), x.ep, (AT : Int), OF, ⟨0, 0, none, 0, []⟩⟩ 0 x (SQ : Int) (AT : Int) OF 0 W hW (fun _ _ q => absurd q (by show ¬ OF = 0; omega)) (iff_of_true rfl ⟨by show (1 : Int) ≠ 0; decide, rfl, rfl, fun _ => rfl, fun h => absurd h (by omega), .inl rfl⟩))
  have HI2 := Lib.hid (show ∀ W, Below w.heap.size w W → Calls Tryd.prog 8 #[.agg #[.int .i64 1, .int .i64 (SQ : Int), .int .i64 x.ep, .int .i64 (AT : Int), .int .i64 OF, .int .i64 0, .int .i64 0, .slice none 0 0], .agg #[.int .i64 x.gen, .int .i64 x.ep, .int .i64 x.pos, .int .i64 x.seq, .int .i64 x.last, .string x.lab, .slice x.HA x.hs.length x.hc], .int .i64 (SQ : Int), .int .i64 (AT : Int), .int .i64 0, .int .i64 OF] W fun e w' => e = .returned (.bool true) ∧ Below W.heap.size W w' from fun W hW => HC.out.is true ⟨1, (SQ : Int), x.ep, (AT : Int), OF, ⟨0, 0, none, 0, []⟩⟩ 0 x (SQ : Int) (AT : Int) 0 OF W hW (fun _ _ q => absurd q (by show ¬ OF = 0; omega)) (iff_of_true rfl ⟨by show (1 : Int) ≠ 0; decide, rfl, rfl, fun h => absurd rfl h, fun _ => Int.le_refl _, .inl rfl⟩))
  have HI3 := Lib.hid (show ∀ W, Below w.heap.size w W → Calls Tryd.prog 8 #[.agg #[.int .i64 1, .int .i64 (SQ : Int), .int .i64 x.ep, .int .i64 (AT : Int), .int .i64 OF, .int .i64 0, .int .i64 0, .slice none 0 0], .agg #[.int .i64 x.gen, .int .i64 x.ep, .int .i64 x.pos, .int .i64 x.seq, .int .i64 x.last, .string x.lab, .slice x.HA x.hs.length x.hc], .int .i64 (SQ : Int), .int .i64 ((AT : Int) + (1 + (N9 : Int))), .int .i64 OF, .int .i64 0] W fun e w' => e = .returned (.bool false) ∧ Below W.heap.size W w' from fun W hW => HC.out.is false ⟨1, (SQ : Int), x.ep, (AT : Int), OF, ⟨0, 0, none, 0, []⟩⟩ 0 x (SQ : Int) ((AT : Int) + (1 + (N9 : Int))) OF 0 W hW (fun _ _ q => absurd q (by show ¬ OF = 0; omega)) (iff_of_false Bool.false_ne_true fun h => absurd h.2.2.1 (by show ¬ (AT : Int) = (AT : Int) + (1 + (N9 : Int)); omega)))
  unfold AV.v at *
  have FF := ac_new w x
  have hb0 := bl w (.cells #[.int .i64 x.gen, .int .i64 x.ep, .int .i64 x.pos, .int .i64 x.seq, .int .i64 x.last, .string x.lab, .slice x.HA x.hs.length x.hc] 26)
  have l0 : w.heap.size < (w.alloc (.cells #[.int .i64 x.gen, .int .i64 x.ep, .int .i64 x.pos, .int .i64 x.seq, .int .i64 x.last, .string x.lab, .slice x.HA x.hs.length x.hc] 26)).heap.size := by simp
  clear hx hh hc hk hOF
  go_enter Tryd.func4, Tryd.ntmps4
  go_upto_region 1 with fail
  generalize w.alloc (.cells #[.int .i64 x.gen, .int .i64 x.ep, .int .i64 x.pos, .int .i64 x.seq, .int .i64 x.last, .string x.lab, .slice x.HA x.hs.length x.hc] 26) = w0 at *
  obtain ⟨c0, c1, c2, c3, c4, c5, c6⟩ := id FF
  go_upto_region 3 with (go_at_call 5; (with_reducible refine (cH _ hb0).mono ?_); rintro e w1 ⟨rfl, hb1⟩)
  have F1 := FF.keep hb1 l0
  have hw1 := bt hb0 hb1
  have l1 := Nat.lt_of_lt_of_le l0 hb1.size
  clear c0 c1 c2 c3 c4 c5 c6 FF cH
  obtain ⟨c0, c1, c2, c3, c4, c5, c6⟩ := id F1
  go_upto_region 6 with fail
  have R1 := c8_new w1 (.int .i64 1) (.int .i64 (SQ : Int)) (.int .i64 x.ep) (.int .i64 (AT : Int)) (.int .i64 OF) (.int .i64 0) (.int .i64 0) (.slice none 0 0) 35
  have hb2 := kal hw1 (.cells #[.int .i64 1, .int .i64 (SQ : Int), .int .i64 x.ep, .int .i64 (AT : Int), .int .i64 OF, .int .i64 0, .int .i64 0, .slice none 0 0] 35)
  have lr : w1.heap.size < (w1.alloc (.cells #[.int .i64 1, .int .i64 (SQ : Int), .int .i64 x.ep, .int .i64 (AT : Int), .int .i64 OF, .int .i64 0, .int .i64 0, .slice none 0 0] 35)).heap.size := by simp
  have F2 := F1.keep (bl w1 (.cells #[.int .i64 1, .int .i64 (SQ : Int), .int .i64 x.ep, .int .i64 (AT : Int), .int .i64 OF, .int .i64 0, .int .i64 0, .slice none 0 0] 35)) l1
  have l2 : w.heap.size < (w1.alloc (.cells #[.int .i64 1, .int .i64 (SQ : Int), .int .i64 x.ep, .int .i64 (AT : Int), .int .i64 OF, .int .i64 0, .int .i64 0, .slice none 0 0] 35)).heap.size := by omega
  clear c0 c1 c2 c3 c4 c5 c6
  obtain ⟨gr, hgr⟩ : ∃ gr, gr = w1.heap.size := ⟨_, rfl⟩
  rw [← hgr] at R1 lr ⊢
  have hwr : w.heap.size ≤ gr := by rw [hgr]; exact hw1.size
  clear hgr
  generalize w1.alloc (.cells #[.int .i64 1, .int .i64 (SQ : Int), .int .i64 x.ep, .int .i64 (AT : Int), .int .i64 OF, .int .i64 0, .int .i64 0, .slice none 0 0] 35) = w2 at *
  have HM := Lib.hid (show ∀ W, Below w2.heap.size w2 W → AC W w.heap.size x ∧ C8 W gr (.int .i64 1) (.int .i64 (SQ : Int)) (.int .i64 x.ep) (.int .i64 (AT : Int)) (.int .i64 OF) (.int .i64 0) (.int .i64 0) (.slice none 0 0) from fun W hW => ⟨F2.keep hW l2, R1.keep hW lr⟩)
  obtain ⟨c0, c1, c2, c3, c4, c5, c6⟩ := id F2
  obtain ⟨r0, r1, r2, r3, r4, r5, r6, r7⟩ := id R1
  have b9 := Below.refl w2.heap.size w2
  go_upto_region 8 with (first
    | (go_at_call 8; (with_reducible refine (HI1.out _ (bt hb2 b9)).mono ?_); rintro e w9 ⟨rfl, hbq⟩; (replace b9 := bt b9 hbq); (clear c0 c1 c2 c3 c4 c5 c6 r0 r1 r2 r3 r4 r5 r6 r7); (obtain ⟨⟨c0, c1, c2, c3, c4, c5, c6⟩, ⟨r0, r1, r2, r3, r4, r5, r6, r7⟩⟩ := HM.out _ b9); clear hbq)
    | (go_at_call 8; (with_reducible refine (HI2.out _ (bt hb2 b9)).mono ?_); rintro e w9 ⟨rfl, hbq⟩; (replace b9 := bt b9 hbq); (clear c0 c1 c2 c3 c4 c5 c6 r0 r1 r2 r3 r4 r5 r6 r7); (obtain ⟨⟨c0, c1, c2, c3, c4, c5, c6⟩, ⟨r0, r1, r2, r3, r4, r5, r6, r7⟩⟩ := HM.out _ b9); clear hbq)
    | fail)
  go_wp2_with (first
    | (go_at_call 8; (with_reducible refine (HI3.out _ (bt hb2 b9)).mono ?_); rintro e w9 ⟨rfl, hbq⟩; (replace b9 := bt b9 hbq); (clear c0 c1 c2 c3 c4 c5 c6 r0 r1 r2 r3 r4 r5 r6 r7); (obtain ⟨⟨c0, c1, c2, c3, c4, c5, c6⟩, ⟨r0, r1, r2, r3, r4, r5, r6, r7⟩⟩ := HM.out _ b9); clear hbq)
    | (go_at_call 11; (with_reducible refine (HK.out _ (bt hb2 b9)).mono ?_); rintro e w8 ⟨rfl, hb8⟩)
    | fail)
  go_ret
  exact ⟨rfl, bt (bt hb2 b9) hb8⟩
set_option maxRecDepth 100000 in
set_option maxHeartbeats 8000000 in
theorem others_2 (x : AV) (q0 at0 of0 how n0 : Int) (w : World) (hc : Cpr w) (hk : ∀ W, Below w.heap.size w W → Calls Tryd.prog 11 #[] W fun e w' => e = .returned (.bool true) ∧ Below W.heap.size W w') (hx : x.In w w.heap.size) (hh : ¬ HeavyA x.d) (hm : (IntKind.u64.wrap how).tmod 5 = 2) :
    Calls Tryd.prog 4 #[.agg #[.int .i64 x.gen, .int .i64 x.ep, .int .i64 x.pos, .int .i64 x.seq, .int .i64 x.last, .string x.lab, .slice x.HA x.hs.length x.hc], .int .i64 q0, .int .i64 at0, .int .i64 of0, .int .i64 how, .int .i64 n0] w fun e w' => e = .returned (.bool true) ∧ Below w.heap.size w w' := by
  have HC := Lib.hid hc
  have HK := Lib.hid hk
  have cH := fun W (hW : Below w.heap.size w W) => heavy_any false x W (hx.next hW) (iff_of_false Bool.false_ne_true hh)
  obtain ⟨SQ, sq1, sq2⟩ := wrap_modL q0 1000 (by decide)
  obtain ⟨AT, at1, at2⟩ := wrap_modL at0 10 (by decide)
  obtain ⟨N9, n91, n92⟩ := wrap_modL n0 10 (by decide)
  obtain ⟨O9, o91, o92⟩ := wrap_modL of0 10 (by decide)
  obtain ⟨OF, hOF⟩ : ∃ OF : Int, (AT : Int) + 1 + (O9 : Int) = OF := ⟨_, rfl⟩
  have of1 : 1 ≤ OF ∧ OF ≤ 19 := by omega
  have v1 : IntKind.i64.wrap (SQ : Int) = (SQ : Int) := IntWalk.i64_in _ (by omega)
  have v2 : IntKind.i64.wrap (AT : Int) = (AT : Int) := IntWalk.i64_in _ (by omega)
  have v3 : IntKind.i64.wrap (N9 : Int) = (N9 : Int) := IntWalk.i64_in _ (by omega)
  have v4 : IntKind.i64.wrap (O9 : Int) = (O9 : Int) := IntWalk.i64_in _ (by omega)
  have v5 : IntKind.i64.wrap (1 + (N9 : Int)) = 1 + (N9 : Int) := IntWalk.i64_in _ (by omega)
  have v6 : IntKind.i64.wrap ((AT : Int) + 1) = (AT : Int) + 1 := IntWalk.i64_in _ (by omega)
  have v7 : IntKind.i64.wrap ((AT : Int) + 1 + (O9 : Int)) = OF := by rw [hOF]; exact IntWalk.i64_in _ (by omega)
  have v8 : IntKind.i64.wrap ((SQ : Int) + (1 + (N9 : Int))) = (SQ : Int) + (1 + (N9 : Int)) := IntWalk.i64_in _ (by omega)
  have v9 : IntKind.i64.wrap ((AT : Int) + (1 + (N9 : Int))) = (AT : Int) + (1 + (N9 : Int)) := IntWalk.i64_in _ (by omega)
  have v10 : IntKind.i64.wrap (OF + (1 + (N9 : Int))) = OF + (1 + (N9 : Int)) := IntWalk.i64_in _ (by omega)
  have v11 : IntKind.i64.wrap (OF - 1) = OF - 1 := IntWalk.i64_in _ (by omega)
  have HI1 := Lib.hid (show ∀ W, Below w.heap.size w W → Calls Tryd.prog 8 #[.agg #[.int .i64 1, .int .i64 (SQ : Int), .int .i64 x.ep, .int .i64 (AT : Int), .int .i64 OF, .int .i64 0, .int .i64 0, .slice none 0 0], .agg #[.int .i64 x.gen, .int .i64 x.ep, .int .i64 x.pos, .int .i64 x.seq, .int .i64 x.last, .string x.lab, .slice x.HA x.hs.length x.hc], .int .i64 (SQ : Int), .int .i64 (AT : Int), .int .i64 OF, .int .i64 0] W fun e w' => e = .returned (.bool true) ∧ Below W.heap.size W w' from fun W hW => HC.out.is true ⟨1, (SQ : Int), x.ep, (AT : Int), OF, ⟨0, 0, none, 0, []⟩⟩ 0 x (SQ : Int) (AT : Int) OF 0 W hW (fun _ _ q => absurd q (by show ¬ OF = 0; omega)) (iff_of_true rfl ⟨by show (1 : Int) ≠ 0; decide, rfl, rfl, fun _ => rfl, fun h => absurd h (by omega), .inl rfl⟩))
  have HI2 := Lib.hid (show ∀ W, Below w.heap.size w W → Calls Tryd.prog 8 #[.agg #[.int .i64 1, .int .i64 (SQ : Int), .int .i64 x.ep, .int .i64 (AT : Int), .int .i64 OF, .int .i64 0, .int .i64 0, .slice none 0 0], .agg #[.int .i64 x.gen, .int .i64 x.ep, .int .i64 x.pos, .int .i64 x.seq, .int .i64 x.last, .string x.lab, .slice x.HA x.hs.length x.hc], .int .i64 (SQ : Int), .int .i64 (AT : Int), .int .i64 0, .int .i64 OF] W fun e w' => e = .returned (.bool true) ∧ Below W.heap.size W w' from fun W hW => HC.out.is true ⟨1, (SQ : Int), x.ep, (AT : Int), OF, ⟨0, 0, none, 0, []⟩⟩ 0 x (SQ : Int) (AT : Int) 0 OF W hW (fun _ _ q => absurd q (by show ¬ OF = 0; omega)) (iff_of_true rfl ⟨by show (1 : Int) ≠ 0; decide, rfl, rfl, fun h => absurd rfl h, fun _ => Int.le_refl _, .inl rfl⟩))
  have HI3 := Lib.hid (show ∀ W, Below w.heap.size w W → Calls Tryd.prog 8 #[.agg #[.int .i64 1, .int .i64 (SQ : Int), .int .i64 x.ep, .int .i64 (AT : Int), .int .i64 OF, .int .i64 0, .int .i64 0, .slice none 0 0], .agg #[.int .i64 x.gen, .int .i64 x.ep, .int .i64 x.pos, .int .i64 x.seq, .int .i64 x.last, .string x.lab, .slice x.HA x.hs.length x.hc], .int .i64 (SQ : Int), .int .i64 (AT : Int), .int .i64 (OF + (1 + (N9 : Int))), .int .i64 0] W fun e w' => e = .returned (.bool false) ∧ Below W.heap.size W w' from fun W hW => HC.out.is false ⟨1, (SQ : Int), x.ep, (AT : Int), OF, ⟨0, 0, none, 0, []⟩⟩ 0 x (SQ : Int) (AT : Int) (OF + (1 + (N9 : Int))) 0 W hW (fun _ _ q => absurd q (by show ¬ OF = 0; omega)) (iff_of_false Bool.false_ne_true fun h => absurd (h.2.2.2.1 (by omega)) (by show ¬ OF = OF + (1 + (N9 : Int)); omega)))
  unfold AV.v at *
  have FF := ac_new w x
  have hb0 := bl w (.cells #[.int .i64 x.gen, .int .i64 x.ep, .int .i64 x.pos, .int .i64 x.seq, .int .i64 x.last, .string x.lab, .slice x.HA x.hs.length x.hc] 26)
  have l0 : w.heap.size < (w.alloc (.cells #[.int .i64 x.gen, .int .i64 x.ep, .int .i64 x.pos, .int .i64 x.seq, .int .i64 x.last, .string x.lab, .slice x.HA x.hs.length x.hc] 26)).heap.size := by simp
  clear hx hh hc hk hOF
  go_enter Tryd.func4, Tryd.ntmps4
  go_upto_region 1 with fail
  generalize w.alloc (.cells #[.int .i64 x.gen, .int .i64 x.ep, .int .i64 x.pos, .int .i64 x.seq, .int .i64 x.last, .string x.lab, .slice x.HA x.hs.length x.hc] 26) = w0 at *
  obtain ⟨c0, c1, c2, c3, c4, c5, c6⟩ := id FF
  go_upto_region 3 with (go_at_call 5; (with_reducible refine (cH _ hb0).mono ?_); rintro e w1 ⟨rfl, hb1⟩)
  have F1 := FF.keep hb1 l0
  have hw1 := bt hb0 hb1
  have l1 := Nat.lt_of_lt_of_le l0 hb1.size
  clear c0 c1 c2 c3 c4 c5 c6 FF cH
  obtain ⟨c0, c1, c2, c3, c4, c5, c6⟩ := id F1
  go_upto_region 6 with fail
  have R1 := c8_new w1 (.int .i64 1) (.int .i64 (SQ : Int)) (.int .i64 x.ep) (.int .i64 (AT : Int)) (.int .i64 OF) (.int .i64 0) (.int .i64 0) (.slice none 0 0) 35
  have hb2 := kal hw1 (.cells #[.int .i64 1, .int .i64 (SQ : Int), .int .i64 x.ep, .int .i64 (AT : Int), .int .i64 OF, .int .i64 0, .int .i64 0, .slice none 0 0] 35)
  have lr : w1.heap.size < (w1.alloc (.cells #[.int .i64 1, .int .i64 (SQ : Int), .int .i64 x.ep, .int .i64 (AT : Int), .int .i64 OF, .int .i64 0, .int .i64 0, .slice none 0 0] 35)).heap.size := by simp
  have F2 := F1.keep (bl w1 (.cells #[.int .i64 1, .int .i64 (SQ : Int), .int .i64 x.ep, .int .i64 (AT : Int), .int .i64 OF, .int .i64 0, .int .i64 0, .slice none 0 0] 35)) l1
  have l2 : w.heap.size < (w1.alloc (.cells #[.int .i64 1, .int .i64 (SQ : Int), .int .i64 x.ep, .int .i64 (AT : Int), .int .i64 OF, .int .i64 0, .int .i64 0, .slice none 0 0] 35)).heap.size := by omega
  clear c0 c1 c2 c3 c4 c5 c6
  obtain ⟨gr, hgr⟩ : ∃ gr, gr = w1.heap.size := ⟨_, rfl⟩
  rw [← hgr] at R1 lr ⊢
  have hwr : w.heap.size ≤ gr := by rw [hgr]; exact hw1.size
  clear hgr
  generalize w1.alloc (.cells #[.int .i64 1, .int .i64 (SQ : Int), .int .i64 x.ep, .int .i64 (AT : Int), .int .i64 OF, .int .i64 0, .int .i64 0, .slice none 0 0] 35) = w2 at *
  have HM := Lib.hid (show ∀ W, Below w2.heap.size w2 W → AC W w.heap.size x ∧ C8 W gr (.int .i64 1) (.int .i64 (SQ : Int)) (.int .i64 x.ep) (.int .i64 (AT : Int)) (.int .i64 OF) (.int .i64 0) (.int .i64 0) (.slice none 0 0) from fun W hW => ⟨F2.keep hW l2, R1.keep hW lr⟩)
  obtain ⟨c0, c1, c2, c3, c4, c5, c6⟩ := id F2
  obtain ⟨r0, r1, r2, r3, r4, r5, r6, r7⟩ := id R1
  have b9 := Below.refl w2.heap.size w2
  go_upto_region 8 with (first
    | (go_at_call 8; (with_reducible refine (HI1.out _ (bt hb2 b9)).mono ?_); rintro e w9 ⟨rfl, hbq⟩; (replace b9 := bt b9 hbq); (clear c0 c1 c2 c3 c4 c5 c6 r0 r1 r2 r3 r4 r5 r6 r7); (obtain ⟨⟨c0, c1, c2, c3, c4, c5, c6⟩, ⟨r0, r1, r2, r3, r4, r5, r6, r7⟩⟩ := HM.out _ b9); clear hbq)
    | (go_at_call 8; (with_reducible refine (HI2.out _ (bt hb2 b9)).mono ?_); rintro e w9 ⟨rfl, hbq⟩; (replace b9 := bt b9 hbq); (clear c0 c1 c2 c3 c4 c5 c6 r0 r1 r2 r3 r4 r5 r6 r7); (obtain ⟨⟨c0, c1, c2, c3, c4, c5, c6⟩, ⟨r0, r1, r2, r3, r4, r5, r6, r7⟩⟩ := HM.out _ b9); clear hbq)
    | fail)
  go_wp2_with (first
    | (go_at_call 8; (with_reducible refine (HI3.out _ (bt hb2 b9)).mono ?_); rintro e w9 ⟨rfl, hbq⟩; (replace b9 := bt b9 hbq); (clear c0 c1 c2 c3 c4 c5 c6 r0 r1 r2 r3 r4 r5 r6 r7); (obtain ⟨⟨c0, c1, c2, c3, c4, c5, c6⟩, ⟨r0, r1, r2, r3, r4, r5, r6, r7⟩⟩ := HM.out _ b9); clear hbq)
    | (go_at_call 11; (with_reducible refine (HK.out _ (bt hb2 b9)).mono ?_); rintro e w8 ⟨rfl, hb8⟩)
    | fail)
  go_ret
  exact ⟨rfl, bt (bt hb2 b9) hb8⟩
set_option maxRecDepth 100000 in
set_option maxHeartbeats 8000000 in
theorem others_3 (x : AV) (q0 at0 of0 how n0 : Int) (w : World) (hc : Cpr w) (hk : ∀ W, Below w.heap.size w W → Calls Tryd.prog 11 #[] W fun e w' => e = .returned (.bool true) ∧ Below W.heap.size W w') (hx : x.In w w.heap.size) (hh : ¬ HeavyA x.d) (hm : (IntKind.u64.wrap how).tmod 5 = 3) :
    Calls Tryd.prog 4 #[.agg #[.int .i64 x.gen, .int .i64 x.ep, .int .i64 x.pos, .int .i64 x.seq, .int .i64 x.last, .string x.lab, .slice x.HA x.hs.length x.hc], .int .i64 q0, .int .i64 at0, .int .i64 of0, .int .i64 how, .int .i64 n0] w fun e w' => e = .returned (.bool true) ∧ Below w.heap.size w w' := by
  have HC := Lib.hid hc
  have HK := Lib.hid hk
  have cH := fun W (hW : Below w.heap.size w W) => heavy_any false x W (hx.next hW) (iff_of_false Bool.false_ne_true hh)
  obtain ⟨SQ, sq1, sq2⟩ := wrap_modL q0 1000 (by decide)
  obtain ⟨AT, at1, at2⟩ := wrap_modL at0 10 (by decide)
  obtain ⟨N9, n91, n92⟩ := wrap_modL n0 10 (by decide)
  obtain ⟨O9, o91, o92⟩ := wrap_modL of0 10 (by decide)
  obtain ⟨OF, hOF⟩ : ∃ OF : Int, (AT : Int) + 1 + (O9 : Int) = OF := ⟨_, rfl⟩
  have of1 : 1 ≤ OF ∧ OF ≤ 19 := by omega
  have v1 : IntKind.i64.wrap (SQ : Int) = (SQ : Int) := IntWalk.i64_in _ (by omega)
  have v2 : IntKind.i64.wrap (AT : Int) = (AT : Int) := IntWalk.i64_in _ (by omega)
  have v3 : IntKind.i64.wrap (N9 : Int) = (N9 : Int) := IntWalk.i64_in _ (by omega)
  have v4 : IntKind.i64.wrap (O9 : Int) = (O9 : Int) := IntWalk.i64_in _ (by omega)
  have v5 : IntKind.i64.wrap (1 + (N9 : Int)) = 1 + (N9 : Int) := IntWalk.i64_in _ (by omega)
  have v6 : IntKind.i64.wrap ((AT : Int) + 1) = (AT : Int) + 1 := IntWalk.i64_in _ (by omega)
  have v7 : IntKind.i64.wrap ((AT : Int) + 1 + (O9 : Int)) = OF := by rw [hOF]; exact IntWalk.i64_in _ (by omega)
  have v8 : IntKind.i64.wrap ((SQ : Int) + (1 + (N9 : Int))) = (SQ : Int) + (1 + (N9 : Int)) := IntWalk.i64_in _ (by omega)
  have v9 : IntKind.i64.wrap ((AT : Int) + (1 + (N9 : Int))) = (AT : Int) + (1 + (N9 : Int)) := IntWalk.i64_in _ (by omega)
  have v10 : IntKind.i64.wrap (OF + (1 + (N9 : Int))) = OF + (1 + (N9 : Int)) := IntWalk.i64_in _ (by omega)
  have v11 : IntKind.i64.wrap (OF - 1) = OF - 1 := IntWalk.i64_in _ (by omega)
  have HI1 := Lib.hid (show ∀ W, Below w.heap.size w W → Calls Tryd.prog 8 #[.agg #[.int .i64 1, .int .i64 (SQ : Int), .int .i64 x.ep, .int .i64 (AT : Int), .int .i64 OF, .int .i64 0, .int .i64 0, .slice none 0 0], .agg #[.int .i64 x.gen, .int .i64 x.ep, .int .i64 x.pos, .int .i64 x.seq, .int .i64 x.last, .string x.lab, .slice x.HA x.hs.length x.hc], .int .i64 (SQ : Int), .int .i64 (AT : Int), .int .i64 OF, .int .i64 0] W fun e w' => e = .returned (.bool true) ∧ Below W.heap.size W w' from fun W hW => HC.out.is true ⟨1, (SQ : Int), x.ep, (AT : Int), OF, ⟨0, 0, none, 0, []⟩⟩ 0 x (SQ : Int) (AT : Int) OF 0 W hW (fun _ _ q => absurd q (by show ¬ OF = 0; omega)) (iff_of_true rfl ⟨by show (1 : Int) ≠ 0; decide, rfl, rfl, fun _ => rfl, fun h => absurd h (by omega), .inl rfl⟩))
  have HI2 := Lib.hid (show ∀ W, Below w.heap.size w W → Calls Tryd.prog 8 #[.agg #[.int .i64 1, .int .i64 (SQ : Int), .int .i64 x.ep, .int .i64 (AT : Int), .int .i64 OF, .int .i64 0, .int .i64 0, .slice none 0 0], .agg #[.int .i64 x.gen, .int .i64 x.ep, .int .i64 x.pos, .int .i64 x.seq, .int .i64 x.last, .string x.lab, .slice x.HA x.hs.length x.hc], .int .i64 (SQ : Int), .int .i64 (AT : Int), .int .i64 0, .int .i64 OF] W fun e w' => e = .returned (.bool true) ∧ Below W.heap.size W w' from fun W hW => HC.out.is true ⟨1, (SQ : Int), x.ep, (AT : Int), OF, ⟨0, 0, none, 0, []⟩⟩ 0 x (SQ : Int) (AT : Int) 0 OF W hW (fun _ _ q => absurd q (by show ¬ OF = 0; omega)) (iff_of_true rfl ⟨by show (1 : Int) ≠ 0; decide, rfl, rfl, fun h => absurd rfl h, fun _ => Int.le_refl _, .inl rfl⟩))
  have HI3 := Lib.hid (show ∀ W, Below w.heap.size w W → Calls Tryd.prog 8 #[.agg #[.int .i64 1, .int .i64 (SQ : Int), .int .i64 x.ep, .int .i64 (AT : Int), .int .i64 OF, .int .i64 0, .int .i64 0, .slice none 0 0], .agg #[.int .i64 x.gen, .int .i64 x.ep, .int .i64 x.pos, .int .i64 x.seq, .int .i64 x.last, .string x.lab, .slice x.HA x.hs.length x.hc], .int .i64 (SQ : Int), .int .i64 (AT : Int), .int .i64 0, .int .i64 (OF - 1)] W fun e w' => e = .returned (.bool false) ∧ Below W.heap.size W w' from fun W hW => HC.out.is false ⟨1, (SQ : Int), x.ep, (AT : Int), OF, ⟨0, 0, none, 0, []⟩⟩ 0 x (SQ : Int) (AT : Int) 0 (OF - 1) W hW (fun _ _ q => absurd q (by show ¬ OF = 0; omega)) (iff_of_false Bool.false_ne_true fun h => absurd (h.2.2.2.2.1 rfl) (by show ¬ OF ≤ OF - 1; omega)))
  unfold AV.v at *
  have FF := ac_new w x
  have hb0 := bl w (.cells #[.int .i64 x.gen, .int .i64 x.ep, .int .i64 x.pos, .int .i64 x.seq, .int .i64 x.last, .string x.lab, .slice x.HA x.hs.length x.hc] 26)
  have l0 : w.heap.size < (w.alloc (.cells #[.int .i64 x.gen, .int .i64 x.ep, .int .i64 x.pos, .int .i64 x.seq, .int .i64 x.last, .string x.lab, .slice x.HA x.hs.length x.hc] 26)).heap.size := by simp
  clear hx hh hc hk hOF
  go_enter Tryd.func4, Tryd.ntmps4
  go_upto_region 1 with fail
  generalize w.alloc (.cells #[.int .i64 x.gen, .int .i64 x.ep, .int .i64 x.pos, .int .i64 x.seq, .int .i64 x.last, .string x.lab, .slice x.HA x.hs.length x.hc] 26) = w0 at *
  obtain ⟨c0, c1, c2, c3, c4, c5, c6⟩ := id FF
  go_upto_region 3 with (go_at_call 5; (with_reducible refine (cH _ hb0).mono ?_); rintro e w1 ⟨rfl, hb1⟩)
  have F1 := FF.keep hb1 l0
  have hw1 := bt hb0 hb1
  have l1 := Nat.lt_of_lt_of_le l0 hb1.size
  clear c0 c1 c2 c3 c4 c5 c6 FF cH
  obtain ⟨c0, c1, c2, c3, c4, c5, c6⟩ := id F1
  go_upto_region 6 with fail
  have R1 := c8_new w1 (.int .i64 1) (.int .i64 (SQ : Int)) (.int .i64 x.ep) (.int .i64 (AT : Int)) (.int .i64 OF) (.int .i64 0) (.int .i64 0) (.slice none 0 0) 35
  have hb2 := kal hw1 (.cells #[.int .i64 1, .int .i64 (SQ : Int), .int .i64 x.ep, .int .i64 (AT : Int), .int .i64 OF, .int .i64 0, .int .i64 0, .slice none 0 0] 35)
  have lr : w1.heap.size < (w1.alloc (.cells #[.int .i64 1, .int .i64 (SQ : Int), .int .i64 x.ep, .int .i64 (AT : Int), .int .i64 OF, .int .i64 0, .int .i64 0, .slice none 0 0] 35)).heap.size := by simp
  have F2 := F1.keep (bl w1 (.cells #[.int .i64 1, .int .i64 (SQ : Int), .int .i64 x.ep, .int .i64 (AT : Int), .int .i64 OF, .int .i64 0, .int .i64 0, .slice none 0 0] 35)) l1
  have l2 : w.heap.size < (w1.alloc (.cells #[.int .i64 1, .int .i64 (SQ : Int), .int .i64 x.ep, .int .i64 (AT : Int), .int .i64 OF, .int .i64 0, .int .i64 0, .slice none 0 0] 35)).heap.size := by omega
  clear c0 c1 c2 c3 c4 c5 c6
  obtain ⟨gr, hgr⟩ : ∃ gr, gr = w1.heap.size := ⟨_, rfl⟩
  rw [← hgr] at R1 lr ⊢
  have hwr : w.heap.size ≤ gr := by rw [hgr]; exact hw1.size
  clear hgr
  generalize w1.alloc (.cells #[.int .i64 1, .int .i64 (SQ : Int), .int .i64 x.ep, .int .i64 (AT : Int), .int .i64 OF, .int .i64 0, .int .i64 0, .slice none 0 0] 35) = w2 at *
  have HM := Lib.hid (show ∀ W, Below w2.heap.size w2 W → AC W w.heap.size x ∧ C8 W gr (.int .i64 1) (.int .i64 (SQ : Int)) (.int .i64 x.ep) (.int .i64 (AT : Int)) (.int .i64 OF) (.int .i64 0) (.int .i64 0) (.slice none 0 0) from fun W hW => ⟨F2.keep hW l2, R1.keep hW lr⟩)
  obtain ⟨c0, c1, c2, c3, c4, c5, c6⟩ := id F2
  obtain ⟨r0, r1, r2, r3, r4, r5, r6, r7⟩ := id R1
  have b9 := Below.refl w2.heap.size w2
  go_upto_region 8 with (first
    | (go_at_call 8; (with_reducible refine (HI1.out _ (bt hb2 b9)).mono ?_); rintro e w9 ⟨rfl, hbq⟩; (replace b9 := bt b9 hbq); (clear c0 c1 c2 c3 c4 c5 c6 r0 r1 r2 r3 r4 r5 r6 r7); (obtain ⟨⟨c0, c1, c2, c3, c4, c5, c6⟩, ⟨r0, r1, r2, r3, r4, r5, r6, r7⟩⟩ := HM.out _ b9); clear hbq)
    | (go_at_call 8; (with_reducible refine (HI2.out _ (bt hb2 b9)).mono ?_); rintro e w9 ⟨rfl, hbq⟩; (replace b9 := bt b9 hbq); (clear c0 c1 c2 c3 c4 c5 c6 r0 r1 r2 r3 r4 r5 r6 r7); (obtain ⟨⟨c0, c1, c2, c3, c4, c5, c6⟩, ⟨r0, r1, r2, r3, r4, r5, r6, r7⟩⟩ := HM.out _ b9); clear hbq)
    | fail)
  go_wp2_with (first
    | (go_at_call 8; (with_reducible refine (HI3.out _ (bt hb2 b9)).mono ?_); rintro e w9 ⟨rfl, hbq⟩; (replace b9 := bt b9 hbq); (clear c0 c1 c2 c3 c4 c5 c6 r0 r1 r2 r3 r4 r5 r6 r7); (obtain ⟨⟨c0, c1, c2, c3, c4, c5, c6⟩, ⟨r0, r1, r2, r3, r4, r5, r6, r7⟩⟩ := HM.out _ b9); clear hbq)
    | (go_at_call 11; (with_reducible refine (HK.out _ (bt hb2 b9)).mono ?_); rintro e w8 ⟨rfl, hb8⟩)
    | fail)
  go_ret
  exact ⟨rfl, bt (bt hb2 b9) hb8⟩
set_option maxRecDepth 100000 in
set_option maxHeartbeats 8000000 in
theorem others_4 (x : AV) (q0 at0 of0 how n0 : Int) (w : World) (hc : Cpr w) (hk : ∀ W, Below w.heap.size w W → Calls Tryd.prog 11 #[] W fun e w' => e = .returned (.bool true) ∧ Below W.heap.size W w') (hx : x.In w w.heap.size) (hh : ¬ HeavyA x.d) (hm : (IntKind.u64.wrap how).tmod 5 = 4) :
    Calls Tryd.prog 4 #[.agg #[.int .i64 x.gen, .int .i64 x.ep, .int .i64 x.pos, .int .i64 x.seq, .int .i64 x.last, .string x.lab, .slice x.HA x.hs.length x.hc], .int .i64 q0, .int .i64 at0, .int .i64 of0, .int .i64 how, .int .i64 n0] w fun e w' => e = .returned (.bool true) ∧ Below w.heap.size w w' := by
  have HC := Lib.hid hc
  have HK := Lib.hid hk
  have cH := fun W (hW : Below w.heap.size w W) => heavy_any false x W (hx.next hW) (iff_of_false Bool.false_ne_true hh)
  obtain ⟨SQ, sq1, sq2⟩ := wrap_modL q0 1000 (by decide)
  obtain ⟨AT, at1, at2⟩ := wrap_modL at0 10 (by decide)
  obtain ⟨N9, n91, n92⟩ := wrap_modL n0 10 (by decide)
  obtain ⟨O9, o91, o92⟩ := wrap_modL of0 10 (by decide)
  obtain ⟨OF, hOF⟩ : ∃ OF : Int, (AT : Int) + 1 + (O9 : Int) = OF := ⟨_, rfl⟩
  have of1 : 1 ≤ OF ∧ OF ≤ 19 := by omega
  have v1 : IntKind.i64.wrap (SQ : Int) = (SQ : Int) := IntWalk.i64_in _ (by omega)
  have v2 : IntKind.i64.wrap (AT : Int) = (AT : Int) := IntWalk.i64_in _ (by omega)
  have v3 : IntKind.i64.wrap (N9 : Int) = (N9 : Int) := IntWalk.i64_in _ (by omega)
  have v4 : IntKind.i64.wrap (O9 : Int) = (O9 : Int) := IntWalk.i64_in _ (by omega)
  have v5 : IntKind.i64.wrap (1 + (N9 : Int)) = 1 + (N9 : Int) := IntWalk.i64_in _ (by omega)
  have v6 : IntKind.i64.wrap ((AT : Int) + 1) = (AT : Int) + 1 := IntWalk.i64_in _ (by omega)
  have v7 : IntKind.i64.wrap ((AT : Int) + 1 + (O9 : Int)) = OF := by rw [hOF]; exact IntWalk.i64_in _ (by omega)
  have v8 : IntKind.i64.wrap ((SQ : Int) + (1 + (N9 : Int))) = (SQ : Int) + (1 + (N9 : Int)) := IntWalk.i64_in _ (by omega)
  have v9 : IntKind.i64.wrap ((AT : Int) + (1 + (N9 : Int))) = (AT : Int) + (1 + (N9 : Int)) := IntWalk.i64_in _ (by omega)
  have v10 : IntKind.i64.wrap (OF + (1 + (N9 : Int))) = OF + (1 + (N9 : Int)) := IntWalk.i64_in _ (by omega)
  have v11 : IntKind.i64.wrap (OF - 1) = OF - 1 := IntWalk.i64_in _ (by omega)
  have HI1 := Lib.hid (show ∀ W, Below w.heap.size w W → Calls Tryd.prog 8 #[.agg #[.int .i64 1, .int .i64 (SQ : Int), .int .i64 x.ep, .int .i64 (AT : Int), .int .i64 OF, .int .i64 0, .int .i64 0, .slice none 0 0], .agg #[.int .i64 x.gen, .int .i64 x.ep, .int .i64 x.pos, .int .i64 x.seq, .int .i64 x.last, .string x.lab, .slice x.HA x.hs.length x.hc], .int .i64 (SQ : Int), .int .i64 (AT : Int), .int .i64 OF, .int .i64 0] W fun e w' => e = .returned (.bool true) ∧ Below W.heap.size W w' from fun W hW => HC.out.is true ⟨1, (SQ : Int), x.ep, (AT : Int), OF, ⟨0, 0, none, 0, []⟩⟩ 0 x (SQ : Int) (AT : Int) OF 0 W hW (fun _ _ q => absurd q (by show ¬ OF = 0; omega)) (iff_of_true rfl ⟨by show (1 : Int) ≠ 0; decide, rfl, rfl, fun _ => rfl, fun h => absurd h (by omega), .inl rfl⟩))
  have HI2 := Lib.hid (show ∀ W, Below w.heap.size w W → Calls Tryd.prog 8 #[.agg #[.int .i64 1, .int .i64 (SQ : Int), .int .i64 x.ep, .int .i64 (AT : Int), .int .i64 OF, .int .i64 0, .int .i64 0, .slice none 0 0], .agg #[.int .i64 x.gen, .int .i64 x.ep, .int .i64 x.pos, .int .i64 x.seq, .int .i64 x.last, .string x.lab, .slice x.HA x.hs.length x.hc], .int .i64 (SQ : Int), .int .i64 (AT : Int), .int .i64 0, .int .i64 OF] W fun e w' => e = .returned (.bool true) ∧ Below W.heap.size W w' from fun W hW => HC.out.is true ⟨1, (SQ : Int), x.ep, (AT : Int), OF, ⟨0, 0, none, 0, []⟩⟩ 0 x (SQ : Int) (AT : Int) 0 OF W hW (fun _ _ q => absurd q (by show ¬ OF = 0; omega)) (iff_of_true rfl ⟨by show (1 : Int) ≠ 0; decide, rfl, rfl, fun h => absurd rfl h, fun _ => Int.le_refl _, .inl rfl⟩))
  have HI3 := Lib.hid (show ∀ W, Below w.heap.size w W → Calls Tryd.prog 8 #[.agg #[.int .i64 0, .int .i64 (SQ : Int), .int .i64 x.ep, .int .i64 (AT : Int), .int .i64 OF, .int .i64 0, .int .i64 0, .slice none 0 0], .agg #[.int .i64 x.gen, .int .i64 x.ep, .int .i64 x.pos, .int .i64 x.seq, .int .i64 x.last, .string x.lab, .slice x.HA x.hs.length x.hc], .int .i64 (SQ : Int), .int .i64 (AT : Int), .int .i64 OF, .int .i64 0] W fun e w' => e = .returned (.bool false) ∧ Below W.heap.size W w' from fun W hW => HC.out.is false ⟨0, (SQ : Int), x.ep, (AT : Int), OF, ⟨0, 0, none, 0, []⟩⟩ 0 x (SQ : Int) (AT : Int) OF 0 W hW (fun _ _ q => absurd q (by show ¬ OF = 0; omega)) (iff_of_false Bool.false_ne_true fun h => absurd rfl h.1))
  unfold AV.v at *
  have FF := ac_new w x
  have hb0 := bl w (.cells #[.int .i64 x.gen, .int .i64 x.ep, .int .i64 x.pos, .int .i64 x.seq, .int .i64 x.last, .string x.lab, .slice x.HA x.hs.length x.hc] 26)
  have l0 : w.heap.size < (w.alloc (.cells #[.int .i64 x.gen, .int .i64 x.ep, .int .i64 x.pos, .int .i64 x.seq, .int .i64 x.last, .string x.lab, .slice x.HA x.hs.length x.hc] 26)).heap.size := by simp
  clear hx hh hc hk hOF
  go_enter Tryd.func4, Tryd.ntmps4
  go_upto_region 1 with fail
  generalize w.alloc (.cells #[.int .i64 x.gen, .int .i64 x.ep, .int .i64 x.pos, .int .i64 x.seq, .int .i64 x.last, .string x.lab, .slice x.HA x.hs.length x.hc] 26) = w0 at *
  obtain ⟨c0, c1, c2, c3, c4, c5, c6⟩ := id FF
  go_upto_region 3 with (go_at_call 5; (with_reducible refine (cH _ hb0).mono ?_); rintro e w1 ⟨rfl, hb1⟩)
  have F1 := FF.keep hb1 l0
  have hw1 := bt hb0 hb1
  have l1 := Nat.lt_of_lt_of_le l0 hb1.size
  clear c0 c1 c2 c3 c4 c5 c6 FF cH
  obtain ⟨c0, c1, c2, c3, c4, c5, c6⟩ := id F1
  go_upto_region 6 with fail
  have R1 := c8_new w1 (.int .i64 1) (.int .i64 (SQ : Int)) (.int .i64 x.ep) (.int .i64 (AT : Int)) (.int .i64 OF) (.int .i64 0) (.int .i64 0) (.slice none 0 0) 35
  have hR := heap_alloc_new w1 (.cells #[.int .i64 1, .int .i64 (SQ : Int), .int .i64 x.ep, .int .i64 (AT : Int), .int .i64 OF, .int .i64 0, .int .i64 0, .slice none 0 0] 35)
  have hb2 := kal hw1 (.cells #[.int .i64 1, .int .i64 (SQ : Int), .int .i64 x.ep, .int .i64 (AT : Int), .int .i64 OF, .int .i64 0, .int .i64 0, .slice none 0 0] 35)
  have lr : w1.heap.size < (w1.alloc (.cells #[.int .i64 1, .int .i64 (SQ : Int), .int .i64 x.ep, .int .i64 (AT : Int), .int .i64 OF, .int .i64 0, .int .i64 0, .slice none 0 0] 35)).heap.size := by simp
  have F2 := F1.keep (bl w1 (.cells #[.int .i64 1, .int .i64 (SQ : Int), .int .i64 x.ep, .int .i64 (AT : Int), .int .i64 OF, .int .i64 0, .int .i64 0, .slice none 0 0] 35)) l1
  have l2 : w.heap.size < (w1.alloc (.cells #[.int .i64 1, .int .i64 (SQ : Int), .int .i64 x.ep, .int .i64 (AT : Int), .int .i64 OF, .int .i64 0, .int .i64 0, .slice none 0 0] 35)).heap.size := by omega
  clear c0 c1 c2 c3 c4 c5 c6
  obtain ⟨gr, hgr⟩ : ∃ gr, gr = w1.heap.size := ⟨_, rfl⟩
  rw [← hgr] at R1 lr hR ⊢
  have hwr : w.heap.size ≤ gr := by rw [hgr]; exact hw1.size
  have hwr2 : w.heap.size < gr := by rw [hgr]; exact l1
  clear hgr
  generalize w1.alloc (.cells #[.int .i64 1, .int .i64 (SQ : Int), .int .i64 x.ep, .int .i64 (AT : Int), .int .i64 OF, .int .i64 0, .int .i64 0, .slice none 0 0] 35) = w2 at *
  have HM := Lib.hid (show ∀ W, Below w2.heap.size w2 W → AC W w.heap.size x ∧ C8 W gr (.int .i64 1) (.int .i64 (SQ : Int)) (.int .i64 x.ep) (.int .i64 (AT : Int)) (.int .i64 OF) (.int .i64 0) (.int .i64 0) (.slice none 0 0) from fun W hW => ⟨F2.keep hW l2, R1.keep hW lr⟩)
  have HM4 := Lib.hid (show ∀ W, Below w2.heap.size w2 W → W.frozen? ⟨gr, 0, none⟩ = false from fun W hW => frozen_of_row W gr 0 _ _ ((hW.block gr lr).trans hR))
  obtain ⟨c0, c1, c2, c3, c4, c5, c6⟩ := id F2
  obtain ⟨r0, r1, r2, r3, r4, r5, r6, r7⟩ := id R1
  have b9 := Below.refl w2.heap.size w2
  go_upto_region 8 with (first
    | (go_at_call 8; (with_reducible refine (HI1.out _ (bt hb2 b9)).mono ?_); rintro e w9 ⟨rfl, hbq⟩; (replace b9 := bt b9 hbq); (clear c0 c1 c2 c3 c4 c5 c6 r0 r1 r2 r3 r4 r5 r6 r7); (obtain ⟨⟨c0, c1, c2, c3, c4, c5, c6⟩, ⟨r0, r1, r2, r3, r4, r5, r6, r7⟩⟩ := HM.out _ b9); clear hbq)
    | (go_at_call 8; (with_reducible refine (HI2.out _ (bt hb2 b9)).mono ?_); rintro e w9 ⟨rfl, hbq⟩; (replace b9 := bt b9 hbq); (clear c0 c1 c2 c3 c4 c5 c6 r0 r1 r2 r3 r4 r5 r6 r7); (obtain ⟨⟨c0, c1, c2, c3, c4, c5, c6⟩, ⟨r0, r1, r2, r3, r4, r5, r6, r7⟩⟩ := HM.out _ b9); clear hbq)
    | fail)
  go_upto_region 17 with fail
  have f0 := HM4.out _ b9
  go_upto_region 18 with fail
  obtain ⟨F7, R7⟩ := HM.out _ b9
  have b10 := (bt hb2 b9).setCell (p := ⟨gr, 0, none⟩) hwr (.int .i64 0)
  have F8 := F7.keep ((Below.refl gr _).setCell (p := ⟨gr, 0, none⟩) (Nat.le_refl _) (.int .i64 0)) hwr2
  have R8 := R7.set0 (.int .i64 0)
  clear c0 c1 c2 c3 c4 c5 c6 r0 r1 r2 r3 r4 r5 r6 r7
  obtain ⟨c0, c1, c2, c3, c4, c5, c6⟩ := id F8
  obtain ⟨r0, r1, r2, r3, r4, r5, r6, r7⟩ := id R8
  go_wp2_with (first
    | (go_at_call 8; (with_reducible refine (HI3.out _ b10).mono ?_); rintro e w9 ⟨rfl, hbq⟩; replace b10 := bt b10 hbq)
    | (go_at_call 11; (with_reducible refine (HK.out _ b10).mono ?_); rintro e w8 ⟨rfl, hb8⟩)
    | fail)
  go_ret
  exact ⟨rfl, bt b10 hb8⟩
theorem pairothers_law (x : AV) (q0 at0 of0 how n0 : Int) (w : World) (hc : Cpr w) (hk : ∀ W, Below w.heap.size w W → Calls Tryd.prog 11 #[] W fun e w' => e = .returned (.bool true) ∧ Below W.heap.size W w') (hx : x.In w w.heap.size) :
    Calls Tryd.prog 4 #[.agg #[.int .i64 x.gen, .int .i64 x.ep, .int .i64 x.pos, .int .i64 x.seq, .int .i64 x.last, .string x.lab, .slice x.HA x.hs.length x.hc], .int .i64 q0, .int .i64 at0, .int .i64 of0, .int .i64 how, .int .i64 n0] w fun e w' => e = .returned (.bool true) ∧ Below w.heap.size w w' := by
  by_cases hh : HeavyA x.d
  · exact others_heavy x q0 at0 of0 how n0 w hx hh
  obtain ⟨m, m1, m2⟩ := wrap_modL how 5 (by decide)
  have h5 : m = 0 ∨ m = 1 ∨ m = 2 ∨ m = 3 ∨ m = 4 := by omega
  rcases h5 with rfl | rfl | rfl | rfl | rfl
  · exact others_0 x q0 at0 of0 how n0 w hc hk hx hh m2
  · exact others_1 x q0 at0 of0 how n0 w hc hk hx hh m2
  · exact others_2 x q0 at0 of0 how n0 w hc hk hx hh m2
  · exact others_3 x q0 at0 of0 how n0 w hc hk hx hh m2
  · exact others_4 x q0 at0 of0 how n0 w hc hk hx hh m2
end Go.Proofs.YtpcadoekhoediaaDoor.prr
