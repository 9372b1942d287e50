/-
  The developers' own byKind, isValid, typed, Check. Conditions: byte strings shorter than 2^20.
-/
import Derived.Test.YtplhdnhigboeaaaRcYA
namespace Go.Proofs.Ytplhdnhigboeaaa.lrc
open Go.RowKit Go.Lib
open Go.Proofs.Ytplhdnhigboeaaa.gmt (Ok)
open Go.Proofs.Ytplhdnhigboeaaa.anc (bl kal kst ks bm ka)
open Go.Proofs.Ytplhdnhigboeaaa.tbl (C1 c1_new G5 g5_new)
open Go.Proofs.Ytplhdnhigboeaaa.img

theorem ret_ib {v : Value} {a b : Bool} (h : a = b) : Ending.returned (.tuple #[v, .bool a]) = .returned (.tuple #[v, .bool b]) := by rw [h]
theorem as_bb (v : Value) (W : World) : (Instr.typeAssert (.iface 100 v) 20 100 true).run Try.prog W = .ok (.tuple #[v, .bool true]) W := by kernel_rfl
theorem as_cb (v : Value) (W : World) : (Instr.typeAssert (.iface 106 v) 20 100 true).run Try.prog W = .ok (.tuple #[.agg #[], .bool false]) W := by kernel_rfl
theorem as_cc (v : Value) (W : World) : (Instr.typeAssert (.iface 106 v) 20 106 true).run Try.prog W = .ok (.tuple #[v, .bool true]) W := by kernel_rfl
theorem as_lb (v : Value) (W : World) : (Instr.typeAssert (.iface 109 v) 20 100 true).run Try.prog W = .ok (.tuple #[.agg #[], .bool false]) W := by kernel_rfl
theorem as_lc (v : Value) (W : World) : (Instr.typeAssert (.iface 109 v) 20 106 true).run Try.prog W = .ok (.tuple #[.agg #[.int .i64 0, .int .i64 0, .int .i64 0, .int .i64 0], .bool false]) W := by kernel_rfl
theorem as_ll (v : Value) (W : World) : (Instr.typeAssert (.iface 109 v) 20 109 false).run Try.prog W = .ok v W := by kernel_rfl
set_option maxRecDepth 100000 in
set_option maxHeartbeats 8000000 in
theorem kind0_c (w : World) (sq ep ps nm y wh : Int) (X : Option Addr) (q xc : Nat) (b : Bool) (hb : b = true ↔ (sq = 0 ∧ ep = 0 ∧ ps = 0 ∧ nm = 0) ∧ y = 0 ∧ wh = 0 ∧ q = 0) :
    Calls Try.prog 57 #[.agg #[.int .i64 0, .int .i64 sq, .int .i64 ep, .int .i64 ps, .int .i64 nm, .int .i64 y, .int .i64 wh, .slice X q xc]] w fun e w' => e = .returned (.tuple #[.iface 100 (.agg #[]), .bool b]) ∧ Below w.heap.size w w' := by
  obtain ⟨kd, hkd⟩ : ∃ k : Int, k = 0 := ⟨_, rfl⟩
  rw [← hkd]
  have HK := Lib.hid hkd
  clear hkd
  have RR := c8_new w (.int .i64 kd) (.int .i64 sq) (.int .i64 ep) (.int .i64 ps) (.int .i64 nm) (.int .i64 y) (.int .i64 wh) (.slice X q xc) 28
  have hw := bl w (.cells #[.int .i64 kd, .int .i64 sq, .int .i64 ep, .int .i64 ps, .int .i64 nm, .int .i64 y, .int .i64 wh, .slice X q xc] 28)
  have lw : w.heap.size < (w.alloc (.cells #[.int .i64 kd, .int .i64 sq, .int .i64 ep, .int .i64 ps, .int .i64 nm, .int .i64 y, .int .i64 wh, .slice X q xc] 28)).heap.size := by simp
  go_enter Try.func57, Try.ntmps57
  go_upto_region 1 with fail
  generalize w.alloc (.cells #[.int .i64 kd, .int .i64 sq, .int .i64 ep, .int .i64 ps, .int .i64 nm, .int .i64 y, .int .i64 wh, .slice X q xc] 28) = w0 at *
  obtain ⟨r0, r1, r2, r3, r4, r5, r6, r7⟩ := id RR
  go_upto_region 2 with fail
  have MM := c4_new w0 (.int .i64 sq) (.int .i64 ep) (.int .i64 ps) (.int .i64 nm) 104
  have R1 := RR.keep (bl w0 (.cells #[.int .i64 sq, .int .i64 ep, .int .i64 ps, .int .i64 nm] 104)) lw
  have hw1 := kal hw (.cells #[.int .i64 sq, .int .i64 ep, .int .i64 ps, .int .i64 nm] 104)
  have lm : w0.heap.size < (w0.alloc (.cells #[.int .i64 sq, .int .i64 ep, .int .i64 ps, .int .i64 nm] 104)).heap.size := by simp
  have hm1 := bl w0 (.cells #[.int .i64 sq, .int .i64 ep, .int .i64 ps, .int .i64 nm] 104)
  generalize w0.alloc (.cells #[.int .i64 sq, .int .i64 ep, .int .i64 ps, .int .i64 nm] 104) = w1 at *
  clear r0 r1 r2 r3 r4 r5 r6 r7 RR
  obtain ⟨r0, r1, r2, r3, r4, r5, r6, r7⟩ := id R1
  obtain ⟨m0, m1, m2, m3⟩ := id MM
  have hkd := HK.out
  subst hkd
  go_upto_region 4 with fail
  by_cases hsq : sq = 0
  case neg =>
    have H : Hid (b = false) := Lib.hid (bool_no hb fun h => hsq (by omega))
    clear hb
    go_wp2_with fail
    go_ret2
    exact ⟨ret_ib H.out.symm, hw1⟩
  subst hsq
  by_cases hep : ep = 0
  case neg =>
    have H : Hid (b = false) := Lib.hid (bool_no hb fun h => hep (by omega))
    clear hb
    go_wp2_with fail
    go_ret2
    exact ⟨ret_ib H.out.symm, hw1⟩
  subst hep
  by_cases hps : ps = 0
  case neg =>
    have H : Hid (b = false) := Lib.hid (bool_no hb fun h => hps (by omega))
    clear hb
    go_wp2_with fail
    go_ret2
    exact ⟨ret_ib H.out.symm, hw1⟩
  subst hps
  by_cases hnm : nm = 0
  case neg =>
    have H : Hid (b = false) := Lib.hid (bool_no hb fun h => hnm (by omega))
    clear hb
    go_wp2_with fail
    go_ret2
    exact ⟨ret_ib H.out.symm, hw1⟩
  subst hnm
  have HN := Lib.hid fun W => none_c b y wh X q xc W (hb.trans (and_iff_right ⟨rfl, rfl, rfl, rfl⟩))
  clear hb
  go_wp2_with (go_at_call 81; (with_reducible refine (HN.out _).mono ?_); rintro e w2 ⟨rfl, hb2⟩)
  go_ret2
  exact ⟨rfl, bt hw1 hb2⟩
set_option maxRecDepth 100000 in
set_option maxHeartbeats 8000000 in
theorem kind1_c (w : World) (sq ep ps nm y wh : Int) (X : Option Addr) (q xc : Nat) :
    Calls Try.prog 57 #[.agg #[.int .i64 1, .int .i64 sq, .int .i64 ep, .int .i64 ps, .int .i64 nm, .int .i64 y, .int .i64 wh, .slice X q xc]] w fun e w' => e = .returned (.tuple #[.iface 109 (.agg #[.int .i64 sq, .int .i64 ep, .int .i64 ps, .int .i64 nm, .int .i64 y, .int .i64 wh, .slice X q xc]), .bool true]) ∧ Below w.heap.size w w' := by
  obtain ⟨kd, hkd⟩ : ∃ k : Int, k = 1 := ⟨_, rfl⟩
  rw [← hkd]
  have HK := Lib.hid hkd
  clear hkd
  have RR := c8_new w (.int .i64 kd) (.int .i64 sq) (.int .i64 ep) (.int .i64 ps) (.int .i64 nm) (.int .i64 y) (.int .i64 wh) (.slice X q xc) 28
  have hw := bl w (.cells #[.int .i64 kd, .int .i64 sq, .int .i64 ep, .int .i64 ps, .int .i64 nm, .int .i64 y, .int .i64 wh, .slice X q xc] 28)
  have lw : w.heap.size < (w.alloc (.cells #[.int .i64 kd, .int .i64 sq, .int .i64 ep, .int .i64 ps, .int .i64 nm, .int .i64 y, .int .i64 wh, .slice X q xc] 28)).heap.size := by simp
  go_enter Try.func57, Try.ntmps57
  go_upto_region 1 with fail
  generalize w.alloc (.cells #[.int .i64 kd, .int .i64 sq, .int .i64 ep, .int .i64 ps, .int .i64 nm, .int .i64 y, .int .i64 wh, .slice X q xc] 28) = w0 at *
  obtain ⟨r0, r1, r2, r3, r4, r5, r6, r7⟩ := id RR
  go_upto_region 2 with fail
  have MM := c4_new w0 (.int .i64 sq) (.int .i64 ep) (.int .i64 ps) (.int .i64 nm) 104
  have R1 := RR.keep (bl w0 (.cells #[.int .i64 sq, .int .i64 ep, .int .i64 ps, .int .i64 nm] 104)) lw
  have hw1 := kal hw (.cells #[.int .i64 sq, .int .i64 ep, .int .i64 ps, .int .i64 nm] 104)
  have lm : w0.heap.size < (w0.alloc (.cells #[.int .i64 sq, .int .i64 ep, .int .i64 ps, .int .i64 nm] 104)).heap.size := by simp
  have hm1 := bl w0 (.cells #[.int .i64 sq, .int .i64 ep, .int .i64 ps, .int .i64 nm] 104)
  generalize w0.alloc (.cells #[.int .i64 sq, .int .i64 ep, .int .i64 ps, .int .i64 nm] 104) = w1 at *
  clear r0 r1 r2 r3 r4 r5 r6 r7 RR
  obtain ⟨r0, r1, r2, r3, r4, r5, r6, r7⟩ := id R1
  obtain ⟨m0, m1, m2, m3⟩ := id MM
  have hkd := HK.out
  subst hkd
  go_wp2_with fail
  go_ret2
  exact ⟨rfl, hw1⟩
set_option maxRecDepth 100000 in
set_option maxHeartbeats 8000000 in
theorem kind2_c (w : World) (sq ep ps nm y wh : Int) (X : Option Addr) (q xc : Nat) (b : Bool) (hb : b = true ↔ y = 0 ∧ wh = 0 ∧ q = 0) :
    Calls Try.prog 57 #[.agg #[.int .i64 2, .int .i64 sq, .int .i64 ep, .int .i64 ps, .int .i64 nm, .int .i64 y, .int .i64 wh, .slice X q xc]] w fun e w' => e = .returned (.tuple #[.iface 106 (.agg #[.int .i64 sq, .int .i64 ep, .int .i64 ps, .int .i64 nm]), .bool b]) ∧ Below w.heap.size w w' := by
  obtain ⟨kd, hkd⟩ : ∃ k : Int, k = 2 := ⟨_, rfl⟩
  rw [← hkd]
  have HK := Lib.hid hkd
  clear hkd
  have RR := c8_new w (.int .i64 kd) (.int .i64 sq) (.int .i64 ep) (.int .i64 ps) (.int .i64 nm) (.int .i64 y) (.int .i64 wh) (.slice X q xc) 28
  have hw := bl w (.cells #[.int .i64 kd, .int .i64 sq, .int .i64 ep, .int .i64 ps, .int .i64 nm, .int .i64 y, .int .i64 wh, .slice X q xc] 28)
  have lw : w.heap.size < (w.alloc (.cells #[.int .i64 kd, .int .i64 sq, .int .i64 ep, .int .i64 ps, .int .i64 nm, .int .i64 y, .int .i64 wh, .slice X q xc] 28)).heap.size := by simp
  go_enter Try.func57, Try.ntmps57
  go_upto_region 1 with fail
  generalize w.alloc (.cells #[.int .i64 kd, .int .i64 sq, .int .i64 ep, .int .i64 ps, .int .i64 nm, .int .i64 y, .int .i64 wh, .slice X q xc] 28) = w0 at *
  obtain ⟨r0, r1, r2, r3, r4, r5, r6, r7⟩ := id RR
  go_upto_region 2 with fail
  have MM := c4_new w0 (.int .i64 sq) (.int .i64 ep) (.int .i64 ps) (.int .i64 nm) 104
  have R1 := RR.keep (bl w0 (.cells #[.int .i64 sq, .int .i64 ep, .int .i64 ps, .int .i64 nm] 104)) lw
  have hw1 := kal hw (.cells #[.int .i64 sq, .int .i64 ep, .int .i64 ps, .int .i64 nm] 104)
  have lm : w0.heap.size < (w0.alloc (.cells #[.int .i64 sq, .int .i64 ep, .int .i64 ps, .int .i64 nm] 104)).heap.size := by simp
  have hm1 := bl w0 (.cells #[.int .i64 sq, .int .i64 ep, .int .i64 ps, .int .i64 nm] 104)
  generalize w0.alloc (.cells #[.int .i64 sq, .int .i64 ep, .int .i64 ps, .int .i64 nm] 104) = w1 at *
  clear r0 r1 r2 r3 r4 r5 r6 r7 RR
  obtain ⟨r0, r1, r2, r3, r4, r5, r6, r7⟩ := id R1
  obtain ⟨m0, m1, m2, m3⟩ := id MM
  have hkd := HK.out
  subst hkd
  have HN := Lib.hid fun W => none_c b y wh X q xc W hb
  have HF := Lib.hid (show ∀ W, Below w1.heap.size w1 W → (W.cell? ⟨w.heap.size, 5, none⟩ = some (.int .i64 y) ∧ W.cell? ⟨w.heap.size, 6, none⟩ = some (.int .i64 wh) ∧ W.cell? ⟨w.heap.size, 7, none⟩ = some (.slice X q xc)) ∧ (W.cell? ⟨w0.heap.size, 0, none⟩ = some (.int .i64 sq) ∧ W.cell? ⟨w0.heap.size, 1, none⟩ = some (.int .i64 ep) ∧ W.cell? ⟨w0.heap.size, 2, none⟩ = some (.int .i64 ps) ∧ W.cell? ⟨w0.heap.size, 3, none⟩ = some (.int .i64 nm)) ∧ Below w1.heap.size w1 W from fun W hW => by
    have R := R1.keep hW (by omega)
    have M := MM.keep hW lm
    exact ⟨⟨R.c5, R.c6, R.c7⟩, ⟨M.c0, M.c1, M.c2, M.c3⟩, hW⟩)
  clear hb
  go_upto_region 8 with fail
  clear r0 r1 r2 r3 r4 r5 r6 r7 m0 m1 m2 m3
  go_region_held3 (fun W => (W.cell? ⟨w.heap.size, 5, none⟩ = some (.int .i64 y) ∧ W.cell? ⟨w.heap.size, 6, none⟩ = some (.int .i64 wh) ∧ W.cell? ⟨w.heap.size, 7, none⟩ = some (.slice X q xc)) ∧ (W.cell? ⟨w0.heap.size, 0, none⟩ = some (.int .i64 sq) ∧ W.cell? ⟨w0.heap.size, 1, none⟩ = some (.int .i64 ep) ∧ W.cell? ⟨w0.heap.size, 2, none⟩ = some (.int .i64 ps) ∧ W.cell? ⟨w0.heap.size, 3, none⟩ = some (.int .i64 nm)) ∧ Below w1.heap.size w1 W)
    ((refine HF.out _ ?_; first
      | with_reducible exact below_dr (Below.refl _ _)
      | with_reducible exact bt (below_dr (Below.refl _ _)) (by assumption)
      | fail))
    (first
      | (go_at_call 81; (with_reducible refine (HN.out _).mono ?_); rintro e w2 ⟨rfl, hb2⟩)
      | fail)
  go_wp2_with fail
  go_ret2
  exact ⟨rfl, bt hw1 (bt (below_dr (Below.refl _ _)) hb2)⟩
set_option maxRecDepth 100000 in
set_option maxHeartbeats 8000000 in
theorem kind3_c (w : World) (kd sq ep ps nm y wh : Int) (X : Option Addr) (q xc : Nat) (hk : kd ≠ 0 ∧ kd ≠ 1 ∧ kd ≠ 2) :
    Calls Try.prog 57 #[.agg #[.int .i64 kd, .int .i64 sq, .int .i64 ep, .int .i64 ps, .int .i64 nm, .int .i64 y, .int .i64 wh, .slice X q xc]] w fun e w' => e = .returned (.tuple #[.nilIface, .bool false]) ∧ Below w.heap.size w w' := by
  have q0 : (kd == 0) = false := beq_eq_false_iff_ne.2 hk.1
  have q1 : (kd == 1) = false := beq_eq_false_iff_ne.2 hk.2.1
  have q2 : (kd == 2) = false := beq_eq_false_iff_ne.2 hk.2.2
  clear hk
  have RR := c8_new w (.int .i64 kd) (.int .i64 sq) (.int .i64 ep) (.int .i64 ps) (.int .i64 nm) (.int .i64 y) (.int .i64 wh) (.slice X q xc) 28
  have hw := bl w (.cells #[.int .i64 kd, .int .i64 sq, .int .i64 ep, .int .i64 ps, .int .i64 nm, .int .i64 y, .int .i64 wh, .slice X q xc] 28)
  have lw : w.heap.size < (w.alloc (.cells #[.int .i64 kd, .int .i64 sq, .int .i64 ep, .int .i64 ps, .int .i64 nm, .int .i64 y, .int .i64 wh, .slice X q xc] 28)).heap.size := by simp
  go_enter Try.func57, Try.ntmps57
  go_upto_region 1 with fail
  generalize w.alloc (.cells #[.int .i64 kd, .int .i64 sq, .int .i64 ep, .int .i64 ps, .int .i64 nm, .int .i64 y, .int .i64 wh, .slice X q xc] 28) = w0 at *
  obtain ⟨r0, r1, r2, r3, r4, r5, r6, r7⟩ := id RR
  go_upto_region 2 with fail
  have MM := c4_new w0 (.int .i64 sq) (.int .i64 ep) (.int .i64 ps) (.int .i64 nm) 104
  have R1 := RR.keep (bl w0 (.cells #[.int .i64 sq, .int .i64 ep, .int .i64 ps, .int .i64 nm] 104)) lw
  have hw1 := kal hw (.cells #[.int .i64 sq, .int .i64 ep, .int .i64 ps, .int .i64 nm] 104)
  have lm : w0.heap.size < (w0.alloc (.cells #[.int .i64 sq, .int .i64 ep, .int .i64 ps, .int .i64 nm] 104)).heap.size := by simp
  have hm1 := bl w0 (.cells #[.int .i64 sq, .int .i64 ep, .int .i64 ps, .int .i64 nm] 104)
  generalize w0.alloc (.cells #[.int .i64 sq, .int .i64 ep, .int .i64 ps, .int .i64 nm] 104) = w1 at *
  clear r0 r1 r2 r3 r4 r5 r6 r7 RR
  obtain ⟨r0, r1, r2, r3, r4, r5, r6, r7⟩ := id R1
  obtain ⟨m0, m1, m2, m3⟩ := id MM
  go_wp2_with fail
  go_ret2
  exact ⟨rfl, hw1⟩
set_option maxRecDepth 100000 in
set_option maxHeartbeats 8000000 in
theorem val0_c (z d s l a : Int) (w : World) :
    Calls Try.prog 58 #[.agg #[.int .i64 z, .int .i64 d, .int .i64 s, .int .i64 l, .int .i64 a], .iface 100 (.agg #[])] w fun e w' => e = .returned (.bool true) ∧ Below w.heap.size w w' := by
  have hw := bl w (.cells #[.int .i64 z, .int .i64 d, .int .i64 s, .int .i64 l, .int .i64 a] 23)
  have a1 := as_bb
  go_enter Try.func58, Try.ntmps58
  go_upto_region 1 with fail
  generalize w.alloc (.cells #[.int .i64 z, .int .i64 d, .int .i64 s, .int .i64 l, .int .i64 a] 23) = w0 at *
  go_wp2_with fail
  go_ret
  exact ⟨rfl, kal hw _⟩
set_option maxRecDepth 100000 in
set_option maxHeartbeats 8000000 in
theorem val2_c (b : Bool) (z d s l a sq ep ps nm : Int) (w : World) (hb : b = true ↔ (NumOk sq ∧ NumOk ep ∧ (2 ≤ nm ∧ nm ≤ 30)) ∧ ps = nm - 1) :
    Calls Try.prog 58 #[.agg #[.int .i64 z, .int .i64 d, .int .i64 s, .int .i64 l, .int .i64 a], .iface 106 (.agg #[.int .i64 sq, .int .i64 ep, .int .i64 ps, .int .i64 nm])] w fun e w' => e = .returned (.bool b) ∧ Below w.heap.size w w' := by
  obtain ⟨b1, h1⟩ := bool_is (NumOk sq ∧ NumOk ep ∧ (2 ≤ nm ∧ nm ≤ 30))
  have HM := Lib.hid fun W => mem_c b1 sq ep ps nm W h1
  have HB := Lib.hid hb
  have H1 := Lib.hid h1
  have hw := bl w (.cells #[.int .i64 z, .int .i64 d, .int .i64 s, .int .i64 l, .int .i64 a] 23)
  have a1 := as_cb
  have a2 := as_cc
  clear hb h1
  go_enter Try.func58, Try.ntmps58
  go_upto_region 1 with fail
  generalize w.alloc (.cells #[.int .i64 z, .int .i64 d, .int .i64 s, .int .i64 l, .int .i64 a] 23) = w0 at *
  go_upto_region 2 with fail
  have hw1 := kal hw (.cells #[] 100)
  generalize w0.alloc (.cells #[] 100) = w1 at *
  go_upto_region 5 with fail
  have CC := c4_new w1 (.int .i64 sq) (.int .i64 ep) (.int .i64 ps) (.int .i64 nm) 106
  have hw2 := kal hw1 (.cells #[.int .i64 sq, .int .i64 ep, .int .i64 ps, .int .i64 nm] 106)
  have lm : w1.heap.size < (w1.alloc (.cells #[.int .i64 sq, .int .i64 ep, .int .i64 ps, .int .i64 nm] 106)).heap.size := by simp
  generalize w1.alloc (.cells #[.int .i64 sq, .int .i64 ep, .int .i64 ps, .int .i64 nm] 106) = w2 at *
  obtain ⟨m0, m1, m2, m3⟩ := id CC
  cases b1
  · have H : Hid (b = false) := Lib.hid (bool_no HB.out fun h => absurd (H1.out.2 h.1) Bool.false_ne_true)
    go_wp2_with (go_at_call 82; (with_reducible refine (HM.out _).mono ?_); rintro e w3 ⟨rfl, hb3⟩)
    go_ret
    exact ⟨ret_bool H.out.symm, bt hw2 hb3⟩
  have hnm := (H1.out.1 rfl).2.2
  have u1 : IntKind.i64.wrap (nm - 1) = nm - 1 := gmt.w6 _ (by omega) (by omega)
  clear hnm
  by_cases hp : ps = nm - 1
  · have H : Hid (b = true) := Lib.hid (HB.out.2 ⟨H1.out.1 rfl, hp⟩)
    have q : (ps == nm - 1) = true := beq_iff_eq.2 hp
    clear hp
    go_wp2_with (go_at_call 82; (with_reducible refine (HM.out _).mono ?_); rintro e w3 ⟨rfl, hb3⟩; (have C2 := CC.keep hb3 lm); obtain ⟨k0, k1, k2, k3⟩ := id C2)
    go_ret
    exact ⟨ret_bool H.out.symm, bt hw2 hb3⟩
  · have H : Hid (b = false) := Lib.hid (bool_no HB.out fun h => hp h.2)
    have q : (ps == nm - 1) = false := beq_eq_false_iff_ne.2 hp
    clear hp
    go_wp2_with (go_at_call 82; (with_reducible refine (HM.out _).mono ?_); rintro e w3 ⟨rfl, hb3⟩; (have C2 := CC.keep hb3 lm); obtain ⟨k0, k1, k2, k3⟩ := id C2)
    go_ret
    exact ⟨ret_bool H.out.symm, bt hw2 hb3⟩
set_option maxRecDepth 100000 in
set_option maxHeartbeats 8000000 in
theorem val1_c (b : Bool) (z d s l a sq ep ps nm y wh : Int) (X : Option Addr) (q xc : Nat) (L : List UInt8) (w : World) (ho : Ok z d s l a) (hx : BIn w w.heap.size ⟨y, wh, X, xc, L⟩) (hn : L.length = q) (hn1 : q ≤ 1048576) (hb : b = true ↔ (NumOk sq ∧ NumOk ep ∧ (2 ≤ nm ∧ nm ≤ 30)) ∧ (0 ≤ ps ∧ ps ≤ nm - 2) ∧ ImOk z d y wh L) :
    Calls Try.prog 58 #[.agg #[.int .i64 z, .int .i64 d, .int .i64 s, .int .i64 l, .int .i64 a], .iface 109 (.agg #[.int .i64 sq, .int .i64 ep, .int .i64 ps, .int .i64 nm, .int .i64 y, .int .i64 wh, .slice X q xc])] w fun e w' => e = .returned (.bool b) ∧ Below w.heap.size w w' := by
  obtain ⟨b1, h1⟩ := bool_is (NumOk sq ∧ NumOk ep ∧ (2 ≤ nm ∧ nm ≤ 30))
  obtain ⟨b2, h2⟩ := bool_is (0 ≤ ps ∧ ps ≤ nm - 2)
  obtain ⟨b3, h3⟩ := bool_is (ImOk z d y wh L)
  have HM := Lib.hid fun W => mem_c b1 sq ep ps nm W h1
  have HP := Lib.hid fun W => from_c b2 ps 0 (nm - 2) W h2
  have HI := Lib.hid (show ∀ W, Below w.heap.size w W → Calls Try.prog 37 #[.agg #[.int .i64 z, .int .i64 d, .int .i64 s, .int .i64 l, .int .i64 a], .agg #[.int .i64 y, .int .i64 wh, .slice X q xc]] W fun e w' => e = .returned (.bool b3) ∧ Below W.heap.size W w' from fun W hW => isimg_c b3 z d s l a y wh X q xc L W ho (hx.next hW) hn hn1 h3)
  have HB := Lib.hid (show b = (b1 && (b2 && b3)) by
    rw [Bool.eq_iff_iff, hb, Bool.and_eq_true, Bool.and_eq_true, h1, h2, h3])
  have H1 := Lib.hid h1
  have hw := bl w (.cells #[.int .i64 z, .int .i64 d, .int .i64 s, .int .i64 l, .int .i64 a] 23)
  have GG := g5_new w z d s l a
  have lg : w.heap.size < (w.alloc (.cells #[.int .i64 z, .int .i64 d, .int .i64 s, .int .i64 l, .int .i64 a] 23)).heap.size := by simp
  have a1 := as_lb
  have a2 := as_lc
  have a3 := as_ll
  clear hb h1 h2 h3 hx hn ho
  go_enter Try.func58, Try.ntmps58
  go_upto_region 1 with fail
  generalize w.alloc (.cells #[.int .i64 z, .int .i64 d, .int .i64 s, .int .i64 l, .int .i64 a] 23) = w0 at *
  go_upto_region 2 with fail
  have hx1 := bl w0 (.cells #[] 100)
  generalize w0.alloc (.cells #[] 100) = w1 at *
  go_upto_region 5 with fail
  have hx2 := kal hx1 (.cells #[.int .i64 0, .int .i64 0, .int .i64 0, .int .i64 0] 106)
  generalize w1.alloc (.cells #[.int .i64 0, .int .i64 0, .int .i64 0, .int .i64 0] 106) = w2 at *
  go_upto_region 8 with fail
  have CC := c7_new w2 (.int .i64 sq) (.int .i64 ep) (.int .i64 ps) (.int .i64 nm) (.int .i64 y) (.int .i64 wh) (.slice X q xc) 109
  have hx3 := kal hx2 (.cells #[.int .i64 sq, .int .i64 ep, .int .i64 ps, .int .i64 nm, .int .i64 y, .int .i64 wh, .slice X q xc] 109)
  have lm : w2.heap.size < (w2.alloc (.cells #[.int .i64 sq, .int .i64 ep, .int .i64 ps, .int .i64 nm, .int .i64 y, .int .i64 wh, .slice X q xc] 109)).heap.size := by simp
  generalize w2.alloc (.cells #[.int .i64 sq, .int .i64 ep, .int .i64 ps, .int .i64 nm, .int .i64 y, .int .i64 wh, .slice X q xc] 109) = w3 at *
  have G3 := GG.keep hx3 lg
  have hw3 := bt hw hx3
  have l3 := hx3.size
  clear GG hx1 hx2 hx3 hw
  obtain ⟨m0, m1, m2, m3, m4, m5, m6⟩ := id CC
  cases b1
  · go_wp2_with (go_at_call 82; (with_reducible refine (HM.out _).mono ?_); rintro e w4 ⟨rfl, hb4⟩)
    go_ret
    exact ⟨ret_bool HB.out.symm, bt hw3 hb4⟩
  have hnm := (H1.out.1 rfl).2.2
  have u1 : IntKind.i64.wrap (nm - 2) = nm - 2 := gmt.w6 _ (by omega) (by omega)
  clear hnm
  cases b2
  · go_wp2_with (first
      | (go_at_call 82; (with_reducible refine (HM.out _).mono ?_); rintro e w4 ⟨rfl, hb4⟩; (have C4 := CC.keep hb4 lm); obtain ⟨k0, k1, k2, k3, k4, k5, k6⟩ := id C4)
      | (go_at_call 40; (with_reducible refine (HP.out _).mono ?_); rintro e w5 ⟨rfl, rfl⟩))
    go_ret
    exact ⟨ret_bool HB.out.symm, bt hw3 hb4⟩
  · go_wp2_with (first
      | (go_at_call 82; (with_reducible refine (HM.out _).mono ?_); rintro e w4 ⟨rfl, hb4⟩; (have C4 := CC.keep hb4 lm); (have G4 := G3.keep hb4 (by omega)); (obtain ⟨k0, k1, k2, k3, k4, k5, k6⟩ := id C4); obtain ⟨g0, g1, g2, g3, g4⟩ := id G4)
      | (go_at_call 40; (with_reducible refine (HP.out _).mono ?_); rintro e w5 ⟨rfl, rfl⟩)
      | (go_at_call 37; (with_reducible refine (HI.out _ (bt hw3 hb4)).mono ?_); rintro e w6 ⟨rfl, hb6⟩))
    go_ret
    exact ⟨ret_bool HB.out.symm, bt (bt hw3 hb4) hb6⟩
end Go.Proofs.Ytplhdnhigboeaaa.lrc
