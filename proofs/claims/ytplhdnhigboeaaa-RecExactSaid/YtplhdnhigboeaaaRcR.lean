/-
  Two rows of records are told apart (casematekeep.Recs). Conditions: each law's own.
-/
import Derived.Test.YtplhdnhigboeaaaRcK
namespace Go.Proofs.Ytplhdnhigboeaaa.lrc
open Go.RowKit Go.Lib
open Go.Proofs.Ytplhdnhigboeaaa.gmt (Ok)
open Go.Proofs.Ytplhdnhigboeaaa.anc (bl kal kst ks bm ka)
open Go.Proofs.Ytplhdnhigboeaaa.tbl (C1 c1_new G5 g5_new)
open Go.Proofs.Ytplhdnhigboeaaa.img

def RShort (m : Nat) (rs : List RcR) : Prop := ∀ r ∈ rs, r.i.l.length ≤ m
set_option maxRecDepth 100000 in
set_option maxHeartbeats 8000000 in
theorem recs_long (A A' : Option Addr) (c c' m n : Nat) (w : World) (h : m ≠ n) :
    Calls Try.prog 23 #[.slice A m c, .slice A' n c'] w fun e w' => e = .returned (.bool false) ∧ Below w.heap.size w w' := by
  have h2 : ((m : Int) != (n : Int)) = true := bne_iff_ne.2 (by omega)
  go_enter Try.func23, Try.ntmps23
  go_wp2
  go_ret
  exact ⟨rfl, Below.refl _ _⟩
set_option maxRecDepth 100000 in
set_option maxHeartbeats 8000000 in
theorem recs_short (dd : Bool) (A A' : Option Addr) (c c' n : Nat) (a b : List RcR) (w : World) (ha : a.length = n) (hb : b.length = n) (hA : SlV w w.heap.size A (rvs a)) (hA' : SlV w w.heap.size A' (rvs b)) (hR : RIn w w.heap.size a) (hR' : RIn w w.heap.size b) (hn : n ≤ 1048576) (hs : RShort 1048576 a) (hd : dd = true ↔ rds a = rds b) :
    Calls Try.prog 23 #[.slice A n c, .slice A' n c'] w fun e w' => e = .returned (.bool dd) ∧ Below w.heap.size w w' := by
  have hla : (rds a).length = n := by rw [rds_length, ha]
  have hlb : (rds b).length = n := by rw [rds_length, hb]
  have h2 : ((n : Int) != (n : Int)) = false := bne_self_eq_false _
  have HD := Lib.hid hd
  clear hd
  go_enter Try.func23, Try.ntmps23
  go_upto_region 4 with fail
  go_loopw [5] (fun i w' => ∃ k : Nat, k ≤ n ∧ i = .int .i64 k ∧ (rds a).take k = (rds b).take k ∧ Below w.heap.size w w') (fun i _ => n - (RowKit.intOf i).toNat)
  case atStart => exact ⟨0, by omega, rfl, rfl, Below.refl _ _⟩
  case round =>
    obtain ⟨w5, rfl⟩ : ∃ x, x = wr := ⟨wr, rfl⟩
    obtain ⟨k, hk, rfl, hs2, hbr⟩ := hrel
    by_cases hlt : k < n
    · obtain ⟨b1, off, x, rfl, hb1, p0, p1, p2, p3, p4, p5, p6, p7, m1, hx, -, e1⟩ := rec_at (hA.below hbr) (hR.below hbr) (show k < a.length by omega)
      obtain ⟨b2, off', y, rfl, hb2, q0, q1, q2, q3, q4, q5, q6, q7, m2, -, -, e2⟩ := rec_at (hA'.below hbr) (hR'.below hbr) (show k < b.length by omega)
      have i1 : (k : Int) < (n : Int) := by omega
      have m3 := hs _ hx
      have lw := hbr.size
      obtain ⟨q, hq⟩ := (show ∃ q : Bool, q = true ↔ x.d = y.d by
        by_cases h : x.d = y.d
        · exact ⟨true, iff_of_true rfl h⟩
        · exact ⟨false, iff_of_false Bool.false_ne_true h⟩)
      have HI := Lib.hid (show ∀ W, Below w5.heap.size w5 W → Calls Try.prog 19 #[.agg #[.int .i64 x.kd, .int .i64 x.sq, .int .i64 x.ep, .int .i64 x.ps, .int .i64 x.nm, .int .i64 x.i.z, .int .i64 x.i.wh, .slice x.i.A x.i.l.length x.i.c], .agg #[.int .i64 y.kd, .int .i64 y.sq, .int .i64 y.ep, .int .i64 y.ps, .int .i64 y.nm, .int .i64 y.i.z, .int .i64 y.i.wh, .slice y.i.A y.i.l.length y.i.c]] W fun e w' => e = .returned (.bool q) ∧ Below W.heap.size W w' from fun W hW => krec_d q x y x.i.l.length y.i.l.length W ((m1.more lw).next hW) ((m2.more lw).next hW) rfl rfl m3 hq)
      have H1 : Hid (q = true → (rds a).take (k + 1) = (rds b).take (k + 1)) := fun h => anc.take_same hs2 e1 e2 (hq.1 h)
      have H2 : Hid (q = false → dd = false) := fun h => Bool.eq_false_iff.2 fun k => anc.take_other e1 e2 (fun e => by rw [hq.2 e] at h; cases h) (HD.out.1 k)
      have hb1' : b1 < w5.heap.size := Nat.lt_of_lt_of_le hb1 lw
      have hb2' : b2 < w5.heap.size := Nat.lt_of_lt_of_le hb2 lw
      have HF := Lib.hid (show ∀ W, Below w5.heap.size w5 W → (W.cell? ⟨b1, off + k * 8, none⟩ = some (.int .i64 x.kd) ∧ W.cell? ⟨b1, off + k * 8 + 1, none⟩ = some (.int .i64 x.sq) ∧ W.cell? ⟨b1, off + k * 8 + 2, none⟩ = some (.int .i64 x.ep) ∧ W.cell? ⟨b1, off + k * 8 + 3, none⟩ = some (.int .i64 x.ps) ∧ W.cell? ⟨b1, off + k * 8 + 4, none⟩ = some (.int .i64 x.nm) ∧ W.cell? ⟨b1, off + k * 8 + 5, none⟩ = some (.int .i64 x.i.z) ∧ W.cell? ⟨b1, off + k * 8 + 6, none⟩ = some (.int .i64 x.i.wh) ∧ W.cell? ⟨b1, off + k * 8 + 7, none⟩ = some (.slice x.i.A x.i.l.length x.i.c) ∧ W.cell? ⟨b2, off' + k * 8, none⟩ = some (.int .i64 y.kd) ∧ W.cell? ⟨b2, off' + k * 8 + 1, none⟩ = some (.int .i64 y.sq) ∧ W.cell? ⟨b2, off' + k * 8 + 2, none⟩ = some (.int .i64 y.ep) ∧ W.cell? ⟨b2, off' + k * 8 + 3, none⟩ = some (.int .i64 y.ps) ∧ W.cell? ⟨b2, off' + k * 8 + 4, none⟩ = some (.int .i64 y.nm) ∧ W.cell? ⟨b2, off' + k * 8 + 5, none⟩ = some (.int .i64 y.i.z) ∧ W.cell? ⟨b2, off' + k * 8 + 6, none⟩ = some (.int .i64 y.i.wh) ∧ W.cell? ⟨b2, off' + k * 8 + 7, none⟩ = some (.slice y.i.A y.i.l.length y.i.c)) ∧ Below w5.heap.size w5 W from fun W h => ⟨⟨kst h hb1' p0, kst h hb1' p1, kst h hb1' p2, kst h hb1' p3, kst h hb1' p4, kst h hb1' p5, kst h hb1' p6, kst h hb1' p7, kst h hb2' q0, kst h hb2' q1, kst h hb2' q2, kst h hb2' q3, kst h hb2' q4, kst h hb2' q5, kst h hb2' q6, kst h hb2' q7⟩, h⟩)
      clear m1 m2 m3 hs2 e1 e2 hA hA' hR hR' hs hla hlb ha hb hx hq h2
      go_upto_region 6 with fail
      clear p0 p1 p2 p3 p4 p5 p6 p7 q0 q1 q2 q3 q4 q5 q6 q7
      go_region_held3 (fun W => (W.cell? ⟨b1, off + k * 8, none⟩ = some (.int .i64 x.kd) ∧ W.cell? ⟨b1, off + k * 8 + 1, none⟩ = some (.int .i64 x.sq) ∧ W.cell? ⟨b1, off + k * 8 + 2, none⟩ = some (.int .i64 x.ep) ∧ W.cell? ⟨b1, off + k * 8 + 3, none⟩ = some (.int .i64 x.ps) ∧ W.cell? ⟨b1, off + k * 8 + 4, none⟩ = some (.int .i64 x.nm) ∧ W.cell? ⟨b1, off + k * 8 + 5, none⟩ = some (.int .i64 x.i.z) ∧ W.cell? ⟨b1, off + k * 8 + 6, none⟩ = some (.int .i64 x.i.wh) ∧ W.cell? ⟨b1, off + k * 8 + 7, none⟩ = some (.slice x.i.A x.i.l.length x.i.c) ∧ W.cell? ⟨b2, off' + k * 8, none⟩ = some (.int .i64 y.kd) ∧ W.cell? ⟨b2, off' + k * 8 + 1, none⟩ = some (.int .i64 y.sq) ∧ W.cell? ⟨b2, off' + k * 8 + 2, none⟩ = some (.int .i64 y.ep) ∧ W.cell? ⟨b2, off' + k * 8 + 3, none⟩ = some (.int .i64 y.ps) ∧ W.cell? ⟨b2, off' + k * 8 + 4, none⟩ = some (.int .i64 y.nm) ∧ W.cell? ⟨b2, off' + k * 8 + 5, none⟩ = some (.int .i64 y.i.z) ∧ W.cell? ⟨b2, off' + k * 8 + 6, none⟩ = some (.int .i64 y.i.wh) ∧ W.cell? ⟨b2, off' + k * 8 + 7, none⟩ = some (.slice y.i.A y.i.l.length y.i.c)) ∧ Below w5.heap.size w5 W)
        ((refine HF.out _ ?_; first
          | with_reducible exact hbx
          | with_reducible exact below_dr (Below.refl _ _)
          | fail))
        (first
          | (go_at_call 19; (with_reducible refine (HI.out _ (below_dr (Below.refl _ _))).mono ?_); rintro e wx ⟨rfl, hbq⟩; have hbx := bt (below_dr (Below.refl w5.heap.size w5)) hbq; clear hbq)
          | fail)
      have hbw := bt hbr hbx
      cases q with
      | true =>
        have H3 := Lib.hid (H1.out rfl)
        clear H1 H2
        go_wp2
        go_roundw
        case rel => exact ⟨k + 1, by omega, by go_num, H3.out, hbw⟩
        case measure => simp [RowKit.intOf]; omega
      | false =>
        have H3 := Lib.hid (H2.out rfl)
        clear H1 H2
        go_wp2
        go_ret
        exact ⟨ret_bool H3.out.symm, hbw⟩
    · have H : Hid (dd = true) := by
        show dd = true
        rw [List.take_of_length_le (by omega), List.take_of_length_le (by omega)] at hs2
        exact HD.out.2 hs2
      go_wp2
      go_ret
      exact ⟨ret_bool H.out.symm, hbr⟩
theorem recs_any (dd : Bool) (A A' : Option Addr) (c c' m n : Nat) (a b : List RcR) (w : World) (ha : a.length = m) (hb : b.length = n) (hA : SlV w w.heap.size A (rvs a)) (hA' : SlV w w.heap.size A' (rvs b)) (hR : RIn w w.heap.size a) (hR' : RIn w w.heap.size b) (hn : m ≤ 1048576) (hs : RShort 1048576 a) (hd : dd = true ↔ rds a = rds b) :
    Calls Try.prog 23 #[.slice A m c, .slice A' n c'] w fun e w' => e = .returned (.bool dd) ∧ Below w.heap.size w w' := by
  by_cases h : m = n
  · subst h
    exact recs_short dd A A' c c' m a b w ha hb hA hA' hR hR' hn hs hd
  · have hf : dd = false := Bool.eq_false_iff.2 fun k => h (by have := congrArg List.length (hd.1 k); rw [rds_length, rds_length] at this; omega)
    rw [hf]
    exact recs_long A A' c c' _ _ w h
end Go.Proofs.Ytplhdnhigboeaaa.lrc
