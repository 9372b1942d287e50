/-
  The developers' own encode. Conditions: right records.
-/
import Derived.Test.YtplhdnhigboeaaaRcYC
namespace Go.Proofs.Ytplhdnhigboeaaa.lrc
open Go.RowKit Go.Lib
open Go.Proofs.Ytplhdnhigboeaaa.gmt (Ok)
open Go.Proofs.Ytplhdnhigboeaaa.anc (bl kal kst ks bm ka)
open Go.Proofs.Ytplhdnhigboeaaa.tbl (C1 c1_new G5 g5_new)
open Go.Proofs.Ytplhdnhigboeaaa.img
open Go.Proofs.Ytplhdnhigboeaaa.pck (le le_length num)

/-- A record as its kind has it. -/
def recV (r : RcR) (n : Nat) : Value := if r.kd = 0 then .iface 100 (.agg #[]) else if r.kd = 1 then .iface 109 (.agg #[.int .i64 r.sq, .int .i64 r.ep, .int .i64 r.ps, .int .i64 r.nm, .int .i64 r.i.z, .int .i64 r.i.wh, .slice r.i.A n r.i.c]) else .iface 106 (.agg #[.int .i64 r.sq, .int .i64 r.ep, .int .i64 r.ps, .int .i64 r.nm])
def Enc1 (base : Nat) (b : List UInt8) (e : Ending) (w' : World) : Prop := ∃ (X : Option Addr) (c : Nat), e = .returned (.slice X b.length c) ∧ Own w' base 5 (.slice X b.length c) b
set_option maxRecDepth 100000 in
set_option maxHeartbeats 8000000 in
theorem enc0_c (w : World) : Calls Try.prog 33 #[.iface 100 (.agg #[])] w fun e w' => (∃ X x, e = .returned (.slice X 11 x) ∧ Own w' w.heap.size 5 (.slice X 11 x) (headB noRec)) ∧ Below w.heap.size w w' := by
  have HH := Lib.hid (show ∀ W, Calls Try.prog 59 #[.int .i64 0, .agg #[.int .i64 0, .int .i64 0, .int .i64 0, .int .i64 0]] W fun e w' => (∃ X x, e = .returned (.slice X 11 x) ∧ Own w' W.heap.size 5 (.slice X 11 x) (headB noRec)) ∧ Below W.heap.size W w' from fun W => head_c 0 0 0 0 0 (by omega) (by omega) (by omega) (by omega) (by omega) W)
  have a1 := as_bb
  generalize headB noRec = B at *
  go_enter Try.func33, Try.ntmps33
  have hw := bl w (.cells #[] 100)
  go_upto_region 2 with fail
  generalize w.alloc (.cells #[] 100) = w0 at *
  go_wp2_with (go_at_call 59; (with_reducible refine (HH.out _).mono ?_); rintro e w1 ⟨⟨X, x, rfl, ho⟩, hb1⟩)
  go_ret
  exact ⟨⟨X, x, rfl, ho.less hw.size⟩, bt hw hb1⟩
set_option maxRecDepth 100000 in
set_option maxHeartbeats 8000000 in
theorem enc2_c (r : RcR) (w : World) (hh : Head r.d) (hp : r.ps = r.nm - 1) (hk : r.kd = 2) : Calls Try.prog 33 #[.iface 106 (.agg #[.int .i64 r.sq, .int .i64 r.ep, .int .i64 r.ps, .int .i64 r.nm])] w fun e w' => (∃ X x, e = .returned (.slice X 11 x) ∧ Own w' w.heap.size 5 (.slice X 11 x) (headB r.d)) ∧ Below w.heap.size w w' := by
  obtain ⟨q1, q2, q3⟩ := hh
  simp only [RcR.d] at q1 q2 q3
  have HH := Lib.hid (show ∀ W, Calls Try.prog 59 #[.int .i64 2, .agg #[.int .i64 r.sq, .int .i64 r.ep, .int .i64 r.ps, .int .i64 r.nm]] W fun e w' => (∃ X x, e = .returned (.slice X 11 x) ∧ Own w' W.heap.size 5 (.slice X 11 x) (headB r.d)) ∧ Below W.heap.size W w' from fun W => by
    have h9 := head_c 2 r.sq r.ep r.ps r.nm (by omega) q1 q2 (by omega) (by omega) W
    rw [show headB r.d = le 1 r.kd.toNat ++ (le 4 r.sq.toNat ++ (le 4 r.ep.toNat ++ (le 1 r.ps.toNat ++ le 1 r.nm.toNat))) from rfl, hk]
    exact h9)
  have a1 := as_cb
  have a2 := as_cc
  generalize headB r.d = B at *
  clear q1 q2 q3 hp hk
  go_enter Try.func33, Try.ntmps33
  have hw := bl w (.cells #[] 100)
  go_upto_region 2 with fail
  generalize w.alloc (.cells #[] 100) = w0 at *
  have hw1 := kal hw (.cells #[.int .i64 r.sq, .int .i64 r.ep, .int .i64 r.ps, .int .i64 r.nm] 106)
  have CC := c4_new w0 (.int .i64 r.sq) (.int .i64 r.ep) (.int .i64 r.ps) (.int .i64 r.nm) 106
  go_upto_region 5 with fail
  generalize w0.alloc (.cells #[.int .i64 r.sq, .int .i64 r.ep, .int .i64 r.ps, .int .i64 r.nm] 106) = w1 at *
  obtain ⟨c0, c1, c2, c3⟩ := id CC
  go_wp2_with (go_at_call 59; (with_reducible refine (HH.out _).mono ?_); rintro e w2 ⟨⟨X, x, rfl, ho⟩, hb2⟩)
  go_ret
  exact ⟨⟨X, x, rfl, ho.less hw1.size⟩, bt hw1 hb2⟩
set_option maxRecDepth 100000 in
set_option maxHeartbeats 8000000 in
theorem enc1_c (r : RcR) (n : Nat) (w : World) (hh : Head r.d) (hp : 0 ≤ r.ps ∧ r.ps ≤ r.nm - 2) (hz : 0 ≤ r.i.z ∧ r.i.z ≤ 255) (hwh : -1 ≤ r.i.wh ∧ r.i.wh ≤ 255) (hk : r.kd = 1) (hx : BIn w w.heap.size r.i) (hn : r.i.l.length = n) (hn1 : n ≤ 255) : Calls Try.prog 33 #[.iface 109 (.agg #[.int .i64 r.sq, .int .i64 r.ep, .int .i64 r.ps, .int .i64 r.nm, .int .i64 r.i.z, .int .i64 r.i.wh, .slice r.i.A n r.i.c])] w fun e w' => (∃ X x, e = .returned (.slice X (11 + (3 + n) : Nat) x) ∧ Own w' w.heap.size 5 (.slice X (11 + (3 + n) : Nat) x) (headB r.d ++ imgB r.d)) ∧ Below w.heap.size w w' := by
  obtain ⟨q1, q2, q3⟩ := hh
  simp only [RcR.d] at q1 q2 q3
  have HH := Lib.hid (show ∀ W, Calls Try.prog 59 #[.int .i64 1, .agg #[.int .i64 r.sq, .int .i64 r.ep, .int .i64 r.ps, .int .i64 r.nm]] W fun e w' => (∃ X x, e = .returned (.slice X 11 x) ∧ Own w' W.heap.size 5 (.slice X 11 x) (headB r.d)) ∧ Below W.heap.size W w' from fun W => by
    have h9 := head_c 1 r.sq r.ep r.ps r.nm (by omega) q1 q2 (by omega) (by omega) W
    rw [show headB r.d = le 1 r.kd.toNat ++ (le 4 r.sq.toNat ++ (le 4 r.ep.toNat ++ (le 1 r.ps.toNat ++ le 1 r.nm.toNat))) from rfl, hk]
    exact h9)
  have HI := Lib.hid (show ∀ W, Below w.heap.size w W → Calls Try.prog 61 #[.agg #[.int .i64 r.i.z, .int .i64 r.i.wh, .slice r.i.A n r.i.c]] W fun e w' => (∃ X x, e = .returned (.slice X (3 + n : Nat) x) ∧ Own w' W.heap.size 5 (.slice X (3 + n : Nat) x) (imgB r.d)) ∧ Below W.heap.size W w' from fun W hW => by
    have h9 := encimg_c r.i.z r.i.wh r.i.A n r.i.c r.i.l W hz hwh (hx.next hW) hn hn1
    rw [show imgB r.d = le 1 r.i.z.toNat ++ (le 1 (whB r.i.wh) ++ (le 1 r.i.l.length ++ r.i.l)) from rfl, hn]
    exact h9)
  have hl1 : (headB r.d).length = 11 := headB_length _
  have hl2 : (imgB r.d).length = 3 + n := by rw [imgB_length, show r.d.l.length = n from hn]
  have HC := Lib.hid fun (W : World) (X1 X2 : Option Addr) (x1 x2 B1 B2 : Nat) (s1 : Own W B1 5 (.slice X1 11 x1) (headB r.d)) (s2 : Own W B2 5 (.slice X2 (3 + n : Nat) x2) (imgB r.d)) => concat_own X1 X2 x1 x2 11 (3 + n) B1 B2 _ _ W (by omega) hl1 hl2 s1 s2
  have a1 := as_lb
  have a2 := as_lc
  have a3 := as_ll
  generalize headB r.d = B at *
  generalize imgB r.d = J at *
  clear q1 q2 q3 hp hk hz hwh hx hn hl1 hl2
  go_enter Try.func33, Try.ntmps33
  have hw := bl w (.cells #[] 100)
  go_upto_region 2 with fail
  generalize w.alloc (.cells #[] 100) = w0 at *
  have hw1 := kal hw (.cells #[.int .i64 0, .int .i64 0, .int .i64 0, .int .i64 0] 106)
  go_upto_region 5 with fail
  generalize w0.alloc (.cells #[.int .i64 0, .int .i64 0, .int .i64 0, .int .i64 0] 106) = w1 at *
  have hw2 := kal hw1 (.cells #[.int .i64 r.sq, .int .i64 r.ep, .int .i64 r.ps, .int .i64 r.nm, .int .i64 r.i.z, .int .i64 r.i.wh, .slice r.i.A n r.i.c] 109)
  have CC := c7_new w1 (.int .i64 r.sq) (.int .i64 r.ep) (.int .i64 r.ps) (.int .i64 r.nm) (.int .i64 r.i.z) (.int .i64 r.i.wh) (.slice r.i.A n r.i.c) 109
  have lw : w1.heap.size < (w1.alloc (.cells #[.int .i64 r.sq, .int .i64 r.ep, .int .i64 r.ps, .int .i64 r.nm, .int .i64 r.i.z, .int .i64 r.i.wh, .slice r.i.A n r.i.c] 109)).heap.size := by simp
  go_upto_region 8 with fail
  generalize w1.alloc (.cells #[.int .i64 r.sq, .int .i64 r.ep, .int .i64 r.ps, .int .i64 r.nm, .int .i64 r.i.z, .int .i64 r.i.wh, .slice r.i.A n r.i.c] 109) = w2 at *
  have HF := Lib.hid (show ∀ W, Below w2.heap.size w2 W → (W.cell? ⟨w1.heap.size, 0, none⟩ = some (.int .i64 r.sq) ∧ W.cell? ⟨w1.heap.size, 1, none⟩ = some (.int .i64 r.ep) ∧ W.cell? ⟨w1.heap.size, 2, none⟩ = some (.int .i64 r.ps) ∧ W.cell? ⟨w1.heap.size, 3, none⟩ = some (.int .i64 r.nm) ∧ W.cell? ⟨w1.heap.size, 4, none⟩ = some (.int .i64 r.i.z) ∧ W.cell? ⟨w1.heap.size, 5, none⟩ = some (.int .i64 r.i.wh) ∧ W.cell? ⟨w1.heap.size, 6, none⟩ = some (.slice r.i.A n r.i.c)) ∧ Below w2.heap.size w2 W from fun W hW => by
    have M := CC.keep hW lw
    exact ⟨⟨M.c0, M.c1, M.c2, M.c3, M.c4, M.c5, M.c6⟩, hW⟩)
  have hd0 : Below w2.heap.size w2 w2.drew := below_dr (Below.refl _ _)
  go_region_held3 (fun W => (W.cell? ⟨w1.heap.size, 0, none⟩ = some (.int .i64 r.sq) ∧ W.cell? ⟨w1.heap.size, 1, none⟩ = some (.int .i64 r.ep) ∧ W.cell? ⟨w1.heap.size, 2, none⟩ = some (.int .i64 r.ps) ∧ W.cell? ⟨w1.heap.size, 3, none⟩ = some (.int .i64 r.nm) ∧ W.cell? ⟨w1.heap.size, 4, none⟩ = some (.int .i64 r.i.z) ∧ W.cell? ⟨w1.heap.size, 5, none⟩ = some (.int .i64 r.i.wh) ∧ W.cell? ⟨w1.heap.size, 6, none⟩ = some (.slice r.i.A n r.i.c)) ∧ Below w2.heap.size w2 W)
    ((refine HF.out _ ?_; first
      | with_reducible exact hd0
      | with_reducible exact bt hd0 (by assumption)
      | with_reducible exact bt (bt hd0 (by assumption)) (by assumption)
      | with_reducible exact hh3
      | with_reducible exact hh4
      | with_reducible exact bt hh3 hb5
      | with_reducible exact bt hh4 hb5
      | with_reducible exact kal hh3 _
      | with_reducible exact kal hh4 _
      | fail))
    (first
      | (go_at_call 59; (with_reducible refine (HH.out _).mono ?_); rintro e w3 ⟨⟨X3, x3, rfl, ho3⟩, hb3⟩; first | (have hh3 := bt hh4 hb3; have ho4 := ho4.below hb3) | have hh3 := bt hd0 hb3)
      | (go_at_call 61; (first | with_reducible refine (HI.out _ (bt hw2 hh3)).mono ?_ | with_reducible refine (HI.out _ (bt hw2 hd0)).mono ?_); rintro e w4 ⟨⟨X4, x4, rfl, ho4⟩, hb4⟩; first | (have hh4 := bt hh3 hb4; have ho3 := ho3.below hb4) | have hh4 := bt hd0 hb4)
      | (go_at_call 60; (with_reducible refine (HC.out _ _ _ _ _ _ _ ho3 ho4).mono ?_); rintro e w5 ⟨⟨X5, x5, rfl, ho5⟩, hb5⟩)
      | fail)
  go_wp2
  go_ret
  exact ⟨⟨X5, x5, rfl, ho5.less (bt hw2 hh4).size⟩, bt (bt hw2 hh4) hb5⟩
end Go.Proofs.Ytplhdnhigboeaaa.lrc
