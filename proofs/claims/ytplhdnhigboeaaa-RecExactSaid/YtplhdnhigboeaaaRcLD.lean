/-
  RecTxns: a transaction's records are its images, in order, and a commit: each knows its place, how many there are, its number, its epoch; are images more than is played (Heavy). Conditions: 'Crd'.
-/
import Derived.Test.YtplhdnhigboeaaaRcQ
import Derived.Test.YtplhdnhigboeaaaRcK
namespace Go.Proofs.Ytplhdnhigboeaaa.lrc
open Go.RowKit Go.Lib
open Go.Proofs.Ytplhdnhigboeaaa.gmt (Ok)
open Go.Proofs.Ytplhdnhigboeaaa.anc (bl kal kst ks bm ka)
open Go.Proofs.Ytplhdnhigboeaaa.tbl (C1 c1_new G5 g5_new)
open Go.Proofs.Ytplhdnhigboeaaa.img

/-- More than is played. -/
def Hvy (ds : List (Int × Int × List UInt8)) : Prop := 40 < ds.length ∨ ∃ x ∈ ds, 200 < x.2.2.length
set_option maxRecDepth 100000 in
set_option maxHeartbeats 8000000 in
theorem heavy15 (b : Bool) (gA : Option Addr) (gc : Nat) (grs : List ImR) (n : Nat) (w : World) (hg : IV.In w w.heap.size ⟨gA, gc, grs⟩) (hn : grs.length = n) (hb : b = true ↔ Hvy (ids grs)) :
    Calls Try.prog 9 #[.slice gA n gc] w fun e w' => e = .returned (.bool b) ∧ Below w.heap.size w w' := by
  have hdl : (ids grs).length = n := by rw [ids_length, hn]
  by_cases h40 : (40 : Int) < (n : Int)
  · obtain rfl : b = true := hb.2 (.inl (by omega))
    clear hb
    go_enter Try.func9, Try.ntmps9
    go_wp2
    go_ret
    exact ⟨rfl, Below.refl _ _⟩
  have HB := Lib.hid (show b = true ↔ ∃ x ∈ ids grs, 200 < x.2.2.length from by
    rw [hb]
    exact ⟨fun h => h.elim (fun k => absurd k (by omega)) id, .inr⟩)
  have HN := Lib.hid hn
  have HG := Lib.hid hg
  clear hb hn hg hdl
  go_enter Try.func9, Try.ntmps9
  go_upto_region 4 with fail
  go_loop [3] (fun i => ∃ k : Nat, k ≤ n ∧ i = .int .i64 k ∧ ∀ x ∈ (ids grs).take k, x.2.2.length ≤ 200) (fun i => n - (RowKit.intOf i).toNat)
  case atStart => exact ⟨0, by omega, rfl, fun x hx => by simp at hx⟩
  case round =>
    obtain ⟨k, hk, rfl, hs⟩ := hrel
    by_cases hlt : k < n
    · have j1 : (k : Int) < (n : Int) := by omega
      obtain ⟨bi, off, r, hA0, hbi, c0, c1, c2, -, -, -, e1⟩ := img_at HG.out.h HG.out.i (show k < grs.length by rw [HN.out]; exact hlt)
      have hA : gA = some ⟨bi, off, none⟩ := hA0
      clear hA0
      subst hA
      by_cases h2 : (200 : Int) < (r.l.length : Int)
      · have H : Hid (b = true) := Lib.hid (HB.out.2 ⟨r.d, List.mem_of_getElem? e1, by show 200 < r.l.length; omega⟩)
        clear hs e1
        go_wp2_with fail
        go_ret
        exact ⟨ret_bool H.out.symm, Below.refl _ _⟩
      · have H : Hid (∀ x ∈ (ids grs).take (k + 1), x.2.2.length ≤ 200) := Lib.hid fun x hx => by
          rw [take_next e1] at hx
          rcases List.mem_append.1 hx with q | q
          · exact hs x q
          · rw [List.mem_singleton.1 q]; show r.l.length ≤ 200; omega
        clear hs e1
        go_wp2_with fail
        go_round
        case rel => exact ⟨k + 1, by omega, by go_num, H.out⟩
        case measure => simp [RowKit.intOf]; omega
    · have j1 : ¬ (k : Int) < (n : Int) := by omega
      have H : Hid (b = false) := Lib.hid (by
        cases b
        · rfl
        · obtain ⟨x, hx, h⟩ := HB.out.1 rfl
          have := hs x (by rw [List.take_of_length_le (by rw [ids_length, HN.out]; omega)]; exact hx)
          omega)
      clear hs
      go_wp2_with fail
      go_ret
      exact ⟨ret_bool H.out.symm, Below.refl _ _⟩
section
variable {sq ep z d : Int} {ds : List (Int × Int × List UInt8)}
theorem txn_img {k : Nat} {x : Int × Int × List UInt8} (h : ds[k]? = some x) : (txnR sq ep ds)[k]? = some ⟨1, sq, ep, k, (ds.length : Int) + 1, x.1, x.2.1, x.2.2⟩ := by
  have hk := (List.getElem?_eq_some_iff.1 h).1
  unfold txnR
  rw [List.getElem?_append_left (by simpa using hk), List.getElem?_map, List.getElem?_range hk]
  simp [imgR, h]
theorem txn_last : (txnR sq ep ds)[ds.length]? = some ⟨2, sq, ep, ds.length, (ds.length : Int) + 1, 0, 0, []⟩ := by
  unfold txnR
  rw [List.getElem?_append_right (by simp)]
  simp
theorem txn_img_ok {k : Nat} {x : Int × Int × List UInt8} (h : ds[k]? = some x) (h1 : NumOk sq) (h2 : NumOk ep) (hi : ImsOk z d ds) (hl : 1 ≤ ds.length ∧ ds.length ≤ 29) : RecOk z d ⟨1, sq, ep, k, (ds.length : Int) + 1, x.1, x.2.1, x.2.2⟩ := by
  have hk := (List.getElem?_eq_some_iff.1 h).1
  exact .inr (.inr ⟨⟨h1, h2, by show (2 : Int) ≤ (ds.length : Int) + 1; omega, by show (ds.length : Int) + 1 ≤ 30; omega⟩, rfl, ⟨by show (0 : Int) ≤ k; omega, by show (k : Int) ≤ (ds.length : Int) + 1 - 2; omega⟩, hi x (List.mem_of_getElem? h)⟩)
theorem txn_last_ok (h1 : NumOk sq) (h2 : NumOk ep) (hl : 1 ≤ ds.length ∧ ds.length ≤ 29) : RecOk z d ⟨2, sq, ep, ds.length, (ds.length : Int) + 1, 0, 0, []⟩ :=
  .inr (.inl ⟨⟨h1, h2, by show (2 : Int) ≤ (ds.length : Int) + 1; omega, by show (ds.length : Int) + 1 ≤ 30; omega⟩, rfl, by show (ds.length : Int) = (ds.length : Int) + 1 - 1; omega, rfl, rfl, rfl⟩)
end
set_option maxRecDepth 100000 in
set_option maxHeartbeats 8000000 in
theorem txns_main (n : Nat) (z d s l a sq ep : Int) (gA : Option Addr) (gc : Nat) (grs : List ImR) (w : World) (hc : Crd w) (ho : Ok z d s l a) (hg : IV.In w w.heap.size ⟨gA, gc, grs⟩) (hn : grs.length = n) (hh : ¬ Hvy (ids grs)) (h1 : NumOk sq) (h2 : NumOk ep) (hi : ImsOk z d (ids grs)) (hl : 1 ≤ n ∧ n ≤ 29) :
    Calls Try.prog 5 #[.agg #[.int .i64 z, .int .i64 d, .int .i64 s, .int .i64 l, .int .i64 a], .int .i64 sq, .int .i64 ep, .slice gA n gc] w fun e w' => e = .returned (.bool true) ∧ Below w.heap.size w w' := by
  have hdl : (ids grs).length = n := by rw [ids_length, hn]
  have GG := g5_new w z d s l a
  have hw := bl w (.cells #[.int .i64 z, .int .i64 d, .int .i64 s, .int .i64 l, .int .i64 a] 23)
  have lw := hw.size
  have lg : w.heap.size < (w.alloc (.cells #[.int .i64 z, .int .i64 d, .int .i64 s, .int .i64 l, .int .i64 a] 23)).heap.size := by simp
  have HH := Lib.hid (show ∀ W, Below w.heap.size w W → Calls Try.prog 9 #[.slice gA n gc] W fun e w' => e = .returned (.bool false) ∧ Below W.heap.size W w' from fun W hW => heavy15 false gA gc grs n W (hg.next hW) hn (iff_of_false Bool.false_ne_true hh))
  have HTX := Lib.hid (show ∀ W, Below w.heap.size w W → Calls Try.prog 13 #[.agg #[.int .i64 z, .int .i64 d, .int .i64 s, .int .i64 l, .int .i64 a], .int .i64 sq, .int .i64 ep, .slice gA n gc] W fun e w' => (∃ (A : Option Addr) (c : Nat) (rs : List RcR), e = .returned (.tuple #[.slice A (n + 1 : Nat) c, .int .i64 0]) ∧ rds rs = txnR sq ep (ids grs) ∧ RV.In w' w'.heap.size ⟨A, c, rs⟩) ∧ Below W.heap.size W w' from fun W hW => by
    have h9 := hc.txn z d s l a sq ep ⟨gA, gc, grs⟩ n W hW ho h1 h2 (hg.next hW) hn hi hl
    unfold TxR at h9
    rw [hdl] at h9
    exact h9)
  have HWK := Lib.hid (fun W (hW : Below w.heap.size w W) => wk_rec W (hc.next hW))
  have HO := Lib.hid ho
  have HC := Lib.hid hc
  have HG := Lib.hid hg
  have HN := Lib.hid hn
  have HDL := Lib.hid hdl
  have H1 := Lib.hid h1
  have H2 := Lib.hid h2
  have HI := Lib.hid hi
  have HNH := Lib.hid hh
  have hne : ((((n + 1 : Nat) : Int)) == 0) = false := beq_eq_false_iff_ne.2 (by omega)
  clear hc ho hg hn hh h1 h2 hi hdl
  go_enter Try.func5, Try.ntmps5
  go_upto_region 1 with fail
  generalize w.alloc (.cells #[.int .i64 z, .int .i64 d, .int .i64 s, .int .i64 l, .int .i64 a] 23) = w0 at *
  obtain ⟨g0, g1, g2, g3, g4⟩ := id GG
  go_upto_region 3 with (go_at_call 9; (with_reducible refine (HH.out _ hw).mono ?_); rintro e w1 ⟨rfl, hb1⟩; replace g0 := kst hb1 lg g0; replace g1 := kst hb1 lg g1; replace g2 := kst hb1 lg g2; replace g3 := kst hb1 lg g3; replace g4 := kst hb1 lg g4)
  have GG1 := GG.keep hb1 lg
  have hw1 := bt hw hb1
  have lg1 := Nat.lt_of_lt_of_le lg hb1.size
  clear hb1 HH GG lg hw lw
  go_upto_region 6 with (go_at_call 13; (with_reducible refine (HTX.out _ hw1).mono ?_); rintro e w3 ⟨⟨A, c, rs, rfl, hrs, hri⟩, hb3⟩)
  have GG3 := GG1.keep hb3 lg1
  have hw3 := bt hw1 hb3
  have lg3 := Nat.lt_of_lt_of_le lg1 hb3.size
  have HRS := Lib.hid hrs
  have HRI := Lib.hid hri
  have hrl : rs.length = n + 1 := by
    have := congrArg List.length hrs
    rw [rds_length, txnR_length, HDL.out] at this
    exact this
  have HRL := Lib.hid hrl
  clear hb3 hrs hri hrl GG1 hw1 lg1 HTX g0 g1 g2 g3 g4
  go_upto_region 9 with fail
  go_loopw [11, 12] (fun i _ w' => ∃ k : Nat, k ≤ n + 1 ∧ i = .int .i64 k ∧ Below w3.heap.size w3 w') (fun i _ _ => n + 1 - (RowKit.intOf i).toNat)
  case atStart => exact ⟨0, by omega, rfl, Below.refl _ _⟩
  case round =>
    obtain ⟨w5, rfl⟩ : ∃ x, x = wr := ⟨wr, rfl⟩
    obtain ⟨k, hk, rfl, hbr⟩ := hrel
    have hw5 := bt hw3 hbr
    have lw5 := hbr.size
    by_cases hlt : k < n + 1
    case neg =>
      have j1 : ¬ (k : Int) < (n : Int) + 1 := by omega
      go_wp2_with (go_at_call 20; (with_reducible refine (HWK.out _ hw5).mono ?_); rintro e w6 ⟨rfl, hb6⟩)
      go_ret
      exact ⟨rfl, bt hw5 hb6⟩
    have j1 : (k : Int) < (n : Int) + 1 := by omega
    have j2 : (k : Int) < ((n + 1 : Nat) : Int) := by omega
    obtain ⟨bi, oi, r, hAi, hbi, c0, c1, c2, c3, c4, c5, c6, c7, hin, -, -, e0⟩ := rec_at HRI.out.h HRI.out.i (show k < rs.length by rw [HRL.out]; exact hlt)
    change A = _ at hAi
    subst hAi
    rw [HRS.out] at e0
    have GG5 := GG3.keep hbr lg3
    by_cases hkn : k < n
    · obtain ⟨bj, oj, y, hAj0, hbj, i0, i1, i2, hyn, -, -, ey⟩ := img_at HG.out.h HG.out.i (show k < grs.length by rw [HN.out]; exact hkn)
      have hAj : gA = some ⟨bj, oj, none⟩ := hAj0
      clear hAj0
      subst hAj
      rw [txn_img ey, HDL.out] at e0
      have d0 : r.d = ⟨1, sq, ep, k, (n : Int) + 1, y.z, y.wh, y.l⟩ := (Option.some.inj e0).symm
      have hok : RecOk z d r.d := by
        have h9 := txn_img_ok ey H1.out H2.out HI.out (by rw [HDL.out]; exact hl)
        rw [HDL.out] at h9
        rw [d0]
        exact h9
      have k0 : r.kd = 1 := congrArg Rcd.kd d0
      have k1 : r.sq = sq := congrArg Rcd.sq d0
      have k2 : r.ep = ep := congrArg Rcd.ep d0
      have k3 : r.ps = k := congrArg Rcd.ps d0
      have k4 : r.nm = (n : Int) + 1 := congrArg Rcd.nm d0
      have k5 : r.i.z = y.z := congrArg Rcd.z d0
      have k6 : r.i.wh = y.wh := congrArg Rcd.wh d0
      have hil : y.l.length ≤ 200 := by
        have h9 : ¬ 200 < y.l.length := fun h => HNH.out (.inr ⟨y.d, List.mem_of_getElem? ey, h⟩)
        omega
      have hrl2 : r.i.l = y.l := congrArg Rcd.l d0
      have HCK := Lib.hid (show ∀ W, Below w.heap.size w W → BIn W W.heap.size r.i → Calls Try.prog 17 #[.agg #[.int .i64 z, .int .i64 d, .int .i64 s, .int .i64 l, .int .i64 a], .agg #[.int .i64 1, .int .i64 sq, .int .i64 ep, .int .i64 k, .int .i64 ((n : Int) + 1), .int .i64 y.z, .int .i64 y.wh, .slice r.i.A y.l.length r.i.c]] W fun e w' => e = .returned (.int .i64 0) ∧ Below W.heap.size W w' from fun W hW hb => by
        have h9 := HC.out.check true z d s l a r y.l.length W hW hb (by rw [hrl2]) (by omega) (iff_of_true rfl ⟨HO.out, hok⟩)
        rw [k0, k1, k2, k3, k4, k5, k6] at h9
        exact h9)
      have HKI := Lib.hid (show ∀ W, BIn W W.heap.size r.i → BIn W W.heap.size y → Calls Try.prog 30 #[.agg #[.int .i64 y.z, .int .i64 y.wh, .slice r.i.A y.l.length r.i.c], .agg #[.int .i64 y.z, .int .i64 y.wh, .slice y.A y.l.length y.c]] W fun e w' => e = .returned (.bool true) ∧ Below W.heap.size W w' from fun W hb hb2 => by
        have h9 := img_c true y.z y.wh y.z y.wh r.i.A y.A y.l.length y.l.length r.i.c y.c W fun W2 hW2 => by
          have h10 := keep_bin r.i y W2 (hb.next hW2) (hb2.next hW2) (by rw [hrl2]; omega)
          rw [hrl2, decide_eq_true rfl] at h10
          exact h10
        simpa using h9)
      rw [k0] at c0
      rw [k1] at c1
      rw [k2] at c2
      rw [k3] at c3
      rw [k4] at c4
      rw [k5] at c5
      rw [k6] at c6
      rw [show r.i.l.length = y.l.length by rw [hrl2]] at c7
      have HIN := Lib.hid hin
      have HYN := Lib.hid hyn
      have hk1 : (k : Int) < (n : Int) := by omega
      have qk : ((k : Int) == (n : Int)) = false := beq_eq_false_iff_ne.2 (by omega)
      clear e0 d0 hok k0 k1 k2 k3 k4 k5 k6 hrl2 hin hyn ey
      replace c0 := kst hbr hbi c0
      replace c1 := kst hbr hbi c1
      replace c2 := kst hbr hbi c2
      replace c3 := kst hbr hbi c3
      replace c4 := kst hbr hbi c4
      replace c5 := kst hbr hbi c5
      replace c6 := kst hbr hbi c6
      replace c7 := kst hbr hbi c7
      replace i0 := ks hw5 hbj i0
      replace i1 := ks hw5 hbj i1
      replace i2 := ks hw5 hbj i2
      have T6 := c8_new w5 (.int .i64 1) (.int .i64 sq) (.int .i64 ep) (.int .i64 k) (.int .i64 ((n : Int) + 1)) (.int .i64 y.z) (.int .i64 y.wh) (.slice r.i.A y.l.length r.i.c) 28
      have hx6 := bl w5 (.cells #[.int .i64 1, .int .i64 sq, .int .i64 ep, .int .i64 k, .int .i64 ((n : Int) + 1), .int .i64 y.z, .int .i64 y.wh, .slice r.i.A y.l.length r.i.c] 28)
      have b56 := hx6
      have lt6 : w5.heap.size < (w5.alloc (.cells #[.int .i64 1, .int .i64 sq, .int .i64 ep, .int .i64 k, .int .i64 ((n : Int) + 1), .int .i64 y.z, .int .i64 y.wh, .slice r.i.A y.l.length r.i.c] 28)).heap.size := by simp
      go_upto_region 12 with fail
      have lw56 := b56.size
      have GG6 := GG5.keep b56 (by omega)
      have hw6 := bt hw5 b56
      have hbr6 := hbr.trans (b56.mono (by omega))
      have HR6 := Lib.hid (HIN.out.next hbr6)
      replace i0 := kst b56 (by omega) i0
      replace i1 := kst b56 (by omega) i1
      replace i2 := kst b56 (by omega) i2
      clear b56
      generalize hgt : w5.heap.size = gt at *
      clear hgt
      generalize (w5.alloc (.cells #[.int .i64 1, .int .i64 sq, .int .i64 ep, .int .i64 k, .int .i64 ((n : Int) + 1), .int .i64 y.z, .int .i64 y.wh, .slice r.i.A y.l.length r.i.c] 28)) = w6 at *
      obtain ⟨t0, t1, t2, t3, t4, t5, t6, t7⟩ := id T6
      obtain ⟨g0, g1, g2, g3, g4⟩ := id GG6
      go_upto_region 14 with (go_at_call 17; (with_reducible refine (HCK.out _ hw6 HR6.out).mono ?_); rintro e w7 ⟨rfl, hb7⟩)
      have T7 := T6.keep hb7 lt6
      have hw7 := bt hw6 hb7
      have hbr7 := bt hbr6 (hb7.mono (by omega))
      have lw7 := hb7.size
      replace i0 := kst hb7 (by omega) i0
      replace i1 := kst hb7 (by omega) i1
      replace i2 := kst hb7 (by omega) i2
      have HR7 := Lib.hid (HR6.out.next hb7)
      have HY7 := Lib.hid (HYN.out.next hw7)
      have HSX := Lib.hid (show ∀ W, Below w7.heap.size w7 W → (W.cell? ⟨gt, 0, none⟩ = some (.int .i64 1) ∧ W.cell? ⟨gt, 5, none⟩ = some (.int .i64 y.z) ∧ W.cell? ⟨gt, 6, none⟩ = some (.int .i64 y.wh) ∧ W.cell? ⟨gt, 7, none⟩ = some (.slice r.i.A y.l.length r.i.c)) ∧ (W.cell? ⟨bj, oj + k * 3, none⟩ = some (.int .i64 y.z) ∧ W.cell? ⟨bj, oj + k * 3 + 1, none⟩ = some (.int .i64 y.wh) ∧ W.cell? ⟨bj, oj + k * 3 + 2, none⟩ = some (.slice y.A y.l.length y.c)) from fun W h => ⟨⟨kst h (by omega) T7.c0, kst h (by omega) T7.c5, kst h (by omega) T7.c6, kst h (by omega) T7.c7⟩, kst h (by omega) i0, kst h (by omega) i1, kst h (by omega) i2⟩)
      clear hb7 g0 g1 g2 g3 g4 t0 t1 t2 t3 t4 t5 t6 t7 T6 T7 GG6 GG5 i0 i1 i2 HCK HR6 hw6 hbr6
      refine wp_region_held_drew (S := fun W => (W.cell? ⟨gt, 0, none⟩ = some (.int .i64 1) ∧ W.cell? ⟨gt, 5, none⟩ = some (.int .i64 y.z) ∧ W.cell? ⟨gt, 6, none⟩ = some (.int .i64 y.wh) ∧ W.cell? ⟨gt, 7, none⟩ = some (.slice r.i.A y.l.length r.i.c)) ∧ (W.cell? ⟨bj, oj + k * 3, none⟩ = some (.int .i64 y.z) ∧ W.cell? ⟨bj, oj + k * 3 + 1, none⟩ = some (.int .i64 y.wh) ∧ W.cell? ⟨bj, oj + k * 3 + 2, none⟩ = some (.slice y.A y.l.length y.c))) (by kernel_rfl) (HSX.out _ (below_dr (Below.refl w7.heap.size w7))) (fun hHeld => ?_)
      (refine wpAnyH_take (i := 0) (v := ?_) rfl (by kernel_rfl) (by kernel_rfl) (by kernel_rfl) (fun _ _ _ h => h) (Or.inl ⟨by rfl, ?_⟩) (by assumption) ?_; rotate_left; (focus (intro w hSw; (try dsimp only at hSw); go_split_ands; go_simp <;> with_reducible rfl)); simp only [List.getElem_toArray, List.getElem_cons_zero, Act.put, List.setIfInBounds_toArray, List.set_cons_zero, List.set_cons_succ])
      (refine wpAnyH_take (i := 1) (v := ?_) rfl (by kernel_rfl) (by kernel_rfl) (by kernel_rfl) (fun _ _ _ h => h) (Or.inl ⟨by rfl, ?_⟩) (by assumption) ?_; rotate_left; (focus (intro w hSw; (try dsimp only at hSw); go_split_ands; go_simp <;> with_reducible rfl)); simp only [List.getElem_toArray, List.getElem_cons_zero, List.getElem_cons_succ, Act.put, List.setIfInBounds_toArray, List.set_cons_zero, List.set_cons_succ])
      (refine wpAnyH_take (i := 2) (v := ?_) rfl (by kernel_rfl) (by kernel_rfl) (by kernel_rfl) (fun _ _ _ h => h) (Or.inl ⟨by rfl, ?_⟩) (by assumption) ?_; rotate_left; (focus (intro w hSw; (try dsimp only at hSw); go_split_ands; go_simp <;> with_reducible rfl)); simp only [List.getElem_toArray, List.getElem_cons_zero, List.getElem_cons_succ, Act.put, List.setIfInBounds_toArray, List.set_cons_zero, List.set_cons_succ])
      (refine wpAnyH_take (i := 3) (v := ?_) rfl (by kernel_rfl) (by kernel_rfl) (by kernel_rfl) (fun _ _ _ h => h) (Or.inl ⟨by rfl, ?_⟩) (by assumption) ?_; rotate_left; (focus (intro w hSw; (try dsimp only at hSw); go_split_ands; go_simp <;> with_reducible rfl)); simp only [List.getElem_toArray, List.getElem_cons_zero, List.getElem_cons_succ, Act.put, List.setIfInBounds_toArray, List.set_cons_zero, List.set_cons_succ])
      (refine wpAnyH_take (i := 4) (v := ?_) rfl (by kernel_rfl) (by kernel_rfl) (by kernel_rfl) (fun _ _ _ h => h) (Or.inl ⟨by rfl, ?_⟩) (by assumption) ?_; rotate_left; (focus (intro w hSw; (try dsimp only at hSw); go_split_ands; go_simp <;> with_reducible rfl)); simp only [List.getElem_toArray, List.getElem_cons_zero, List.getElem_cons_succ, Act.put, List.setIfInBounds_toArray, List.set_cons_zero, List.set_cons_succ])
      (refine wpAnyH_take (i := 5) (v := ?_) rfl (by kernel_rfl) (by kernel_rfl) (by kernel_rfl) (fun _ _ _ h => h) (Or.inl ⟨by rfl, ?_⟩) (by assumption) ?_; rotate_left; (focus (intro w hSw; (try dsimp only at hSw); go_split_ands; go_simp <;> with_reducible rfl)); simp only [List.getElem_toArray, List.getElem_cons_zero, List.getElem_cons_succ, Act.put, List.setIfInBounds_toArray, List.set_cons_zero, List.set_cons_succ])
      (refine wpAnyH_take (i := 6) (v := ?_) rfl (by kernel_rfl) (by kernel_rfl) (by kernel_rfl) (fun _ _ _ h => h) (Or.inl ⟨by rfl, ?_⟩) (by assumption) ?_; rotate_left; (focus (intro w hSw; (try dsimp only at hSw); go_split_ands; go_simp <;> with_reducible rfl)); simp only [List.getElem_toArray, List.getElem_cons_zero, List.getElem_cons_succ, Act.put, List.setIfInBounds_toArray, List.set_cons_zero, List.set_cons_succ])
      (refine wpAnyH_take (i := 7) (v := ?_) rfl (by kernel_rfl) (by kernel_rfl) (by kernel_rfl) (fun _ _ _ h => h) (Or.inl ⟨by rfl, ?_⟩) (by assumption) ?_; rotate_left; (focus (intro w hSw; (try dsimp only at hSw); go_split_ands; go_simp <;> with_reducible rfl)); simp only [List.getElem_toArray, List.getElem_cons_zero, List.getElem_cons_succ, Act.put, List.setIfInBounds_toArray, List.set_cons_zero, List.set_cons_succ])
      (refine wpAnyH_take (i := 8) (v := ?_) rfl (by kernel_rfl) (by kernel_rfl) (by kernel_rfl) (fun _ _ _ h => h) (Or.inl ⟨by rfl, ?_⟩) (by assumption) ?_; rotate_left; (focus (intro w hSw; (try dsimp only at hSw); go_split_ands; go_simp <;> with_reducible rfl)); simp only [List.getElem_toArray, List.getElem_cons_zero, List.getElem_cons_succ, Act.put, List.setIfInBounds_toArray, List.set_cons_zero, List.set_cons_succ])
      (refine wpAnyH_take (i := 9) (v := ?_) rfl (by kernel_rfl) (by kernel_rfl) (by kernel_rfl) (fun _ _ _ h => h) (Or.inl ⟨by rfl, ?_⟩) (by assumption) ?_; rotate_left; (focus (intro w hSw; (try dsimp only at hSw); go_split_ands; go_simp <;> with_reducible rfl)); simp only [List.getElem_toArray, List.getElem_cons_zero, List.getElem_cons_succ, Act.put, List.setIfInBounds_toArray, List.set_cons_zero, List.set_cons_succ])
      (refine wpAnyH_take (i := 10) (v := ?_) rfl (by kernel_rfl) (by kernel_rfl) (by kernel_rfl) (fun _ _ _ h => h) (Or.inl ⟨by rfl, ?_⟩) (by assumption) ?_; rotate_left; (focus (intro w hSw; (try dsimp only at hSw); go_split_ands; go_simp <;> with_reducible rfl)); simp only [List.getElem_toArray, List.getElem_cons_zero, List.getElem_cons_succ, Act.put, List.setIfInBounds_toArray, List.set_cons_zero, List.set_cons_succ])
      (refine wpAnyH_take (i := 11) (v := ?_) rfl (by kernel_rfl) (by kernel_rfl) (by kernel_rfl) (fun _ _ _ h => h) (Or.inl ⟨by rfl, ?_⟩) (by assumption) ?_; rotate_left; (focus (intro w hSw; (try dsimp only at hSw); go_split_ands; go_simp <;> with_reducible rfl)); simp only [List.getElem_toArray, List.getElem_cons_zero, List.getElem_cons_succ, Act.put, List.setIfInBounds_toArray, List.set_cons_zero, List.set_cons_succ])
      (refine wpAnyH_take (i := 12) (v := ?_) rfl (by kernel_rfl) (by kernel_rfl) (by kernel_rfl) (fun _ _ _ h => h) (Or.inl ⟨by rfl, ?_⟩) (by assumption) ?_; rotate_left; (focus (intro w hSw; (try dsimp only at hSw); go_split_ands; go_simp <;> with_reducible rfl)); simp only [List.getElem_toArray, List.getElem_cons_zero, List.getElem_cons_succ, Act.put, List.setIfInBounds_toArray, List.set_cons_zero, List.set_cons_succ])
      (refine wpAnyH_take (i := 13) (v := ?_) rfl (by kernel_rfl) (by kernel_rfl) (by kernel_rfl) (fun _ _ _ h => h) (Or.inl ⟨by rfl, ?_⟩) (by assumption) ?_; rotate_left; (focus (intro w hSw; (try dsimp only at hSw); go_split_ands; go_simp <;> with_reducible rfl)); simp only [List.getElem_toArray, List.getElem_cons_zero, List.getElem_cons_succ, Act.put, List.setIfInBounds_toArray, List.set_cons_zero, List.set_cons_succ])
      (refine wpAnyH_take (i := 14) (v := ?_) rfl (by kernel_rfl) (by kernel_rfl) (by kernel_rfl) (fun _ _ _ h => h) (Or.inl ⟨by rfl, ?_⟩) (by assumption) ?_; rotate_left; (focus (intro w hSw; (try dsimp only at hSw); go_split_ands; go_simp <;> with_reducible rfl)); simp only [List.getElem_toArray, List.getElem_cons_zero, List.getElem_cons_succ, Act.put, List.setIfInBounds_toArray, List.set_cons_zero, List.set_cons_succ])
      refine wpAnyH_ready (rs := [15]) (by kernel_rfl) (by simp) ?_
      refine AllReadyH.cons rfl (fun K hK => ?_) AllReadyH.nil
      go_simp
      (with_reducible refine (HKI.out _ (HR7.out.next (below_dr (Below.refl w7.heap.size w7))) (HY7.out.next (below_dr (Below.refl w7.heap.size w7)))).mono ?_)
      rintro e w8 ⟨rfl, hb8'⟩
      have hb8 : Below w7.heap.size w7 w8 := bt (below_dr (Below.refl w7.heap.size w7)) hb8'
      refine hK.out _ _ (HSX.out _ hb8) (fun hS2 => ?_)
      clear hK K
      try simp only [Act.put, List.setIfInBounds_toArray, List.set_cons_zero, List.set_cons_succ]
      (refine wpAnyH_take (i := 16) (v := ?_) rfl (by kernel_rfl) (by kernel_rfl) (by kernel_rfl) (fun _ _ _ h => h) (Or.inl ⟨by rfl, ?_⟩) (by assumption) ?_; rotate_left; (focus (intro w hSw; (try dsimp only at hSw); go_split_ands; go_simp <;> with_reducible rfl)); simp only [List.getElem_toArray, List.getElem_cons_zero, List.getElem_cons_succ, Act.put, List.setIfInBounds_toArray, List.set_cons_zero, List.set_cons_succ])
      (refine wpAnyH_take (i := 17) (v := ?_) rfl (by kernel_rfl) (by kernel_rfl) (by kernel_rfl) (fun _ _ _ h => h) (Or.inl ⟨by rfl, ?_⟩) (by assumption) ?_; rotate_left; (focus (intro w hSw; (try dsimp only at hSw); go_split_ands; go_simp <;> with_reducible rfl)); simp only [List.getElem_toArray, List.getElem_cons_zero, List.getElem_cons_succ, Act.put, List.setIfInBounds_toArray, List.set_cons_zero, List.set_cons_succ])
      (refine wpAnyH_take (i := 18) (v := ?_) rfl (by kernel_rfl) (by kernel_rfl) (by kernel_rfl) (fun _ _ _ h => h) (Or.inl ⟨by rfl, ?_⟩) (by assumption) ?_; rotate_left; (focus (intro w hSw; (try dsimp only at hSw); go_split_ands; go_simp <;> with_reducible rfl)); simp only [List.getElem_toArray, List.getElem_cons_zero, List.getElem_cons_succ, Act.put, List.setIfInBounds_toArray, List.set_cons_zero, List.set_cons_succ])
      (refine wpAnyH_take (i := 19) (v := ?_) rfl (by kernel_rfl) (by kernel_rfl) (by kernel_rfl) (fun _ _ _ h => h) (Or.inl ⟨by rfl, ?_⟩) (by assumption) ?_; rotate_left; (focus (intro w hSw; (try dsimp only at hSw); go_split_ands; go_simp <;> with_reducible rfl)); simp only [List.getElem_toArray, List.getElem_cons_zero, List.getElem_cons_succ, Act.put, List.setIfInBounds_toArray, List.set_cons_zero, List.set_cons_succ])
      (refine wpAnyH_take (i := 20) (v := ?_) rfl (by kernel_rfl) (by kernel_rfl) (by kernel_rfl) (fun _ _ _ h => h) (Or.inl ⟨by rfl, ?_⟩) (by assumption) ?_; rotate_left; (focus (intro w hSw; (try dsimp only at hSw); go_split_ands; go_simp <;> with_reducible rfl)); simp only [List.getElem_toArray, List.getElem_cons_zero, List.getElem_cons_succ, Act.put, List.setIfInBounds_toArray, List.set_cons_zero, List.set_cons_succ])
      (refine wpAnyH_take (i := 21) (v := ?_) rfl (by kernel_rfl) (by kernel_rfl) (by kernel_rfl) (fun _ _ _ h => h) (Or.inl ⟨by rfl, ?_⟩) (by assumption) ?_; rotate_left; (focus (intro w hSw; (try dsimp only at hSw); go_split_ands; go_simp <;> with_reducible rfl)); simp only [List.getElem_toArray, List.getElem_cons_zero, List.getElem_cons_succ, Act.put, List.setIfInBounds_toArray, List.set_cons_zero, List.set_cons_succ])
      (refine wpAnyH_take (i := 22) (v := ?_) rfl (by kernel_rfl) (by kernel_rfl) (by kernel_rfl) (fun _ _ _ h => h) (Or.inl ⟨by rfl, ?_⟩) (by assumption) ?_; rotate_left; (focus (intro w hSw; (try dsimp only at hSw); go_split_ands; go_simp <;> with_reducible rfl)); simp only [List.getElem_toArray, List.getElem_cons_zero, List.getElem_cons_succ, Act.put, List.setIfInBounds_toArray, List.set_cons_zero, List.set_cons_succ])
      (refine wpAnyH_take (i := 23) (v := ?_) rfl (by kernel_rfl) (by kernel_rfl) (by kernel_rfl) (fun _ _ _ h => h) (Or.inl ⟨by rfl, ?_⟩) (by assumption) ?_; rotate_left; (focus (intro w hSw; (try dsimp only at hSw); go_split_ands; go_simp <;> with_reducible rfl)); simp only [List.getElem_toArray, List.getElem_cons_zero, List.getElem_cons_succ, Act.put, List.setIfInBounds_toArray, List.set_cons_zero, List.set_cons_succ])
      (refine wpAnyH_take (i := 24) (v := ?_) rfl (by kernel_rfl) (by kernel_rfl) (by kernel_rfl) (fun _ _ _ h => h) (Or.inl ⟨by rfl, ?_⟩) (by assumption) ?_; rotate_left; (focus (intro w hSw; (try dsimp only at hSw); go_split_ands; go_simp <;> with_reducible rfl)); simp only [List.getElem_toArray, List.getElem_cons_zero, List.getElem_cons_succ, Act.put, List.setIfInBounds_toArray, List.set_cons_zero, List.set_cons_succ])
      (refine wpAnyH_take (i := 25) (v := undef) rfl (by kernel_rfl) (by kernel_rfl) (by kernel_rfl) (fun _ _ _ h => h) (Or.inr ⟨by rfl, rfl⟩) (by assumption) ?_; simp only [List.getElem_toArray, List.getElem_cons_zero, List.getElem_cons_succ, Act.put, List.setIfInBounds_toArray, List.set_cons_zero, List.set_cons_succ])
      (refine wpAnyH_take (i := 26) (v := undef) rfl (by kernel_rfl) (by kernel_rfl) (by kernel_rfl) (fun _ _ _ h => h) (Or.inr ⟨by rfl, rfl⟩) (by assumption) ?_; simp only [List.getElem_toArray, List.getElem_cons_zero, List.getElem_cons_succ, Act.put, List.setIfInBounds_toArray, List.set_cons_zero, List.set_cons_succ])
      (refine wpAnyH_take (i := 27) (v := undef) rfl (by kernel_rfl) (by kernel_rfl) (by kernel_rfl) (fun _ _ _ h => h) (Or.inr ⟨by rfl, rfl⟩) (by assumption) ?_; simp only [List.getElem_toArray, List.getElem_cons_zero, List.getElem_cons_succ, Act.put, List.setIfInBounds_toArray, List.set_cons_zero, List.set_cons_succ])
      (refine wpAnyH_take (i := 28) (v := ?_) rfl (by kernel_rfl) (by kernel_rfl) (by kernel_rfl) (fun _ _ _ h => h) (Or.inl ⟨by rfl, ?_⟩) (by assumption) ?_; rotate_left; (focus (intro w hSw; (try dsimp only at hSw); go_split_ands; go_simp <;> with_reducible rfl)); simp only [List.getElem_toArray, List.getElem_cons_zero, List.getElem_cons_succ, Act.put, List.setIfInBounds_toArray, List.set_cons_zero, List.set_cons_succ])
      (refine wpAnyH_take (i := 29) (v := ?_) rfl (by kernel_rfl) (by kernel_rfl) (by kernel_rfl) (fun _ _ _ h => h) (Or.inl ⟨by rfl, ?_⟩) (by assumption) ?_; rotate_left; (focus (intro w hSw; (try dsimp only at hSw); go_split_ands; go_simp <;> with_reducible rfl)); simp only [List.getElem_toArray, List.getElem_cons_zero, List.getElem_cons_succ, Act.put, List.setIfInBounds_toArray, List.set_cons_zero, List.set_cons_succ])
      refine wpAnyH_done (by kernel_rfl) ?_ _
      go_wp2_with fail
      go_roundw
      case rel => exact ⟨k + 1, by omega, by go_num, hbr7.trans (hb8.mono (by omega))⟩
      case measure => simp [RowKit.intOf]; omega
    · have hkn2 : k = n := by omega
      subst hkn2
      have e9 := txn_last (sq := sq) (ep := ep) (ds := ids grs)
      rw [HDL.out] at e9
      rw [e9] at e0
      have d0 : r.d = ⟨2, sq, ep, k, (k : Int) + 1, 0, 0, []⟩ := (Option.some.inj e0).symm
      have hok : RecOk z d r.d := by
        have h9 := txn_last_ok (z := z) (d := d) (ds := ids grs) H1.out H2.out (by rw [HDL.out]; exact hl)
        rw [HDL.out] at h9
        rw [d0]
        exact h9
      have k0 : r.kd = 2 := congrArg Rcd.kd d0
      have k1 : r.sq = sq := congrArg Rcd.sq d0
      have k2 : r.ep = ep := congrArg Rcd.ep d0
      have k3 : r.ps = k := congrArg Rcd.ps d0
      have k4 : r.nm = (k : Int) + 1 := congrArg Rcd.nm d0
      have k5 : r.i.z = 0 := congrArg Rcd.z d0
      have k6 : r.i.wh = 0 := congrArg Rcd.wh d0
      have hrl2 : r.i.l.length = 0 := by rw [show r.i.l = [] from congrArg Rcd.l d0]; rfl
      have HCK := Lib.hid (show ∀ W, Below w.heap.size w W → BIn W W.heap.size r.i → Calls Try.prog 17 #[.agg #[.int .i64 z, .int .i64 d, .int .i64 s, .int .i64 l, .int .i64 a], .agg #[.int .i64 2, .int .i64 sq, .int .i64 ep, .int .i64 k, .int .i64 ((k : Int) + 1), .int .i64 0, .int .i64 0, .slice r.i.A 0 r.i.c]] W fun e w' => e = .returned (.int .i64 0) ∧ Below W.heap.size W w' from fun W hW hb => by
        have h9 := HC.out.check true z d s l a r 0 W hW hb hrl2 (by omega) (iff_of_true rfl ⟨HO.out, hok⟩)
        rw [k0, k1, k2, k3, k4, k5, k6] at h9
        exact h9)
      rw [k0] at c0
      rw [k1] at c1
      rw [k2] at c2
      rw [k3] at c3
      rw [k4] at c4
      rw [k5] at c5
      rw [k6] at c6
      rw [hrl2] at c7
      have HIN := Lib.hid hin
      have hk1 : ¬ (k : Int) < (k : Int) := by omega
      clear e0 e9 d0 hok k0 k1 k2 k3 k4 k5 k6 hrl2 hin hkn
      replace c0 := kst hbr hbi c0
      replace c1 := kst hbr hbi c1
      replace c2 := kst hbr hbi c2
      replace c3 := kst hbr hbi c3
      replace c4 := kst hbr hbi c4
      replace c5 := kst hbr hbi c5
      replace c6 := kst hbr hbi c6
      replace c7 := kst hbr hbi c7
      have T6 := c8_new w5 (.int .i64 2) (.int .i64 sq) (.int .i64 ep) (.int .i64 k) (.int .i64 ((k : Int) + 1)) (.int .i64 0) (.int .i64 0) (.slice r.i.A 0 r.i.c) 28
      have b56 := bl w5 (.cells #[.int .i64 2, .int .i64 sq, .int .i64 ep, .int .i64 k, .int .i64 ((k : Int) + 1), .int .i64 0, .int .i64 0, .slice r.i.A 0 r.i.c] 28)
      have lt6 : w5.heap.size < (w5.alloc (.cells #[.int .i64 2, .int .i64 sq, .int .i64 ep, .int .i64 k, .int .i64 ((k : Int) + 1), .int .i64 0, .int .i64 0, .slice r.i.A 0 r.i.c] 28)).heap.size := by simp
      go_upto_region 12 with fail
      have lw56 := b56.size
      have GG6 := GG5.keep b56 (by omega)
      have hw6 := bt hw5 b56
      have hbr6 := hbr.trans (b56.mono (by omega))
      have HR6 := Lib.hid (HIN.out.next hbr6)
      clear b56
      generalize hgt : w5.heap.size = gt at *
      clear hgt
      generalize (w5.alloc (.cells #[.int .i64 2, .int .i64 sq, .int .i64 ep, .int .i64 k, .int .i64 ((k : Int) + 1), .int .i64 0, .int .i64 0, .slice r.i.A 0 r.i.c] 28)) = w6 at *
      obtain ⟨t0, t1, t2, t3, t4, t5, t6, t7⟩ := id T6
      obtain ⟨g0, g1, g2, g3, g4⟩ := id GG6
      go_upto_region 14 with (go_at_call 17; (with_reducible refine (HCK.out _ hw6 HR6.out).mono ?_); rintro e w7 ⟨rfl, hb7⟩)
      have T7 := T6.keep hb7 lt6
      have hw7 := bt hw6 hb7
      have hbr7 := bt hbr6 (hb7.mono (by omega))
      have lw7 := hb7.size
      have t0' := T7.c0
      clear hb7 g0 g1 g2 g3 g4 t0 t1 t2 t3 t4 t5 t6 t7 T6 GG6 GG5 HCK HR6 hw6 hbr6
      go_quiet (fail)
      have hb8 := below_dn (Below.refl w7.heap.size w7) nq
      generalize w7.drewN nq = w8 at *
      go_wp2_with fail
      go_roundw
      case rel => exact ⟨k + 1, by omega, by go_num, hbr7.trans (hb8.mono (by omega))⟩
      case measure => simp [RowKit.intOf]
set_option maxRecDepth 100000 in
set_option maxHeartbeats 8000000 in
theorem txns_out (n : Nat) (z d s l a sq ep : Int) (gA : Option Addr) (gc : Nat) (grs : List ImR) (w : World) (hg : IV.In w w.heap.size ⟨gA, gc, grs⟩) (hn : grs.length = n) (hh : Hvy (ids grs)) :
    Calls Try.prog 5 #[.agg #[.int .i64 z, .int .i64 d, .int .i64 s, .int .i64 l, .int .i64 a], .int .i64 sq, .int .i64 ep, .slice gA n gc] w fun e w' => e = .returned (.bool true) ∧ Below w.heap.size w w' := by
  have hw := bl w (.cells #[.int .i64 z, .int .i64 d, .int .i64 s, .int .i64 l, .int .i64 a] 23)
  have HH := Lib.hid (show ∀ W, Below w.heap.size w W → Calls Try.prog 9 #[.slice gA n gc] W fun e w' => e = .returned (.bool true) ∧ Below W.heap.size W w' from fun W hW => heavy15 true gA gc grs n W (hg.next hW) hn (iff_of_true rfl hh))
  clear hg hn hh
  go_enter Try.func5, Try.ntmps5
  go_upto_region 1 with fail
  generalize w.alloc (.cells #[.int .i64 z, .int .i64 d, .int .i64 s, .int .i64 l, .int .i64 a] 23) = w0 at *
  go_wp2_with (go_at_call 9; (with_reducible refine (HH.out _ hw).mono ?_); rintro e w1 ⟨rfl, hb1⟩)
  go_ret
  exact ⟨rfl, bt hw hb1⟩
set_option maxRecDepth 100000 in
set_option maxHeartbeats 8000000 in
theorem txns_no (v : Int) (n : Nat) (z d s l a sq ep : Int) (gA : Option Addr) (gc : Nat) (grs : List ImR) (w : World) (hc : Crd w) (hg : IV.In w w.heap.size ⟨gA, gc, grs⟩) (hn : grs.length = n) (hh : ¬ Hvy (ids grs)) (hv : v ≠ 0) (hy : TxWhy z d s l a sq ep (ids grs) v) :
    Calls Try.prog 5 #[.agg #[.int .i64 z, .int .i64 d, .int .i64 s, .int .i64 l, .int .i64 a], .int .i64 sq, .int .i64 ep, .slice gA n gc] w fun e w' => e = .returned (.bool true) ∧ Below w.heap.size w w' := by
  have hdl : (ids grs).length = n := by rw [ids_length, hn]
  have GG := g5_new w z d s l a
  have hw := bl w (.cells #[.int .i64 z, .int .i64 d, .int .i64 s, .int .i64 l, .int .i64 a] 23)
  have lg : w.heap.size < (w.alloc (.cells #[.int .i64 z, .int .i64 d, .int .i64 s, .int .i64 l, .int .i64 a] 23)).heap.size := by simp
  have q : (v != 0) = true := bne_iff_ne.2 hv
  have hn40 : n ≤ 40 := by
    by_cases h : 40 < n
    · exact absurd (.inl (by omega)) hh
    · omega
  have h200 : ∀ x ∈ ids grs, x.2.2.length ≤ 1048576 := fun x hx => by
    by_cases h : 200 < x.2.2.length
    · exact absurd (.inr ⟨x, hx, h⟩) hh
    · omega
  have HH := Lib.hid (show ∀ W, Below w.heap.size w W → Calls Try.prog 9 #[.slice gA n gc] W fun e w' => e = .returned (.bool false) ∧ Below W.heap.size W w' from fun W hW => heavy15 false gA gc grs n W (hg.next hW) hn (iff_of_false Bool.false_ne_true hh))
  have HTX := Lib.hid (show ∀ W, Below w.heap.size w W → Calls Try.prog 13 #[.agg #[.int .i64 z, .int .i64 d, .int .i64 s, .int .i64 l, .int .i64 a], .int .i64 sq, .int .i64 ep, .slice gA n gc] W fun e w' => tbl.NonE v e ∧ Below W.heap.size W w' from fun W hW => hc.txn_no v z d s l a sq ep ⟨gA, gc, grs⟩ n W hW hy (hg.next hW) hn (by omega) h200)
  have HWK := Lib.hid (fun W (hW : Below w.heap.size w W) => wk_rec W (hc.next hW))
  clear hc hg hn hh hv hy hdl h200 hn40
  go_enter Try.func5, Try.ntmps5
  go_upto_region 1 with fail
  generalize w.alloc (.cells #[.int .i64 z, .int .i64 d, .int .i64 s, .int .i64 l, .int .i64 a] 23) = w0 at *
  obtain ⟨g0, g1, g2, g3, g4⟩ := id GG
  go_wp2_with (first
    | (go_at_call 9; (with_reducible refine (HH.out _ hw).mono ?_); rintro e w1 ⟨rfl, hb1⟩; replace g0 := kst hb1 lg g0; replace g1 := kst hb1 lg g1; replace g2 := kst hb1 lg g2; replace g3 := kst hb1 lg g3; replace g4 := kst hb1 lg g4; have hw1 := bt hw hb1)
    | (go_at_call 13; (with_reducible refine (HTX.out _ hw1).mono ?_); rintro e w2 ⟨⟨X, xc, rfl⟩, hb2⟩; have hw2 := bt hw1 hb2)
    | (go_at_call 20; (with_reducible refine (HWK.out _ hw2).mono ?_); rintro e w3 ⟨rfl, hb3⟩))
  go_ret
  exact ⟨rfl, bt hw2 hb3⟩
/-- The law. -/
theorem txns_law (n : Nat) (z d s l a sq ep : Int) (gA : Option Addr) (gc : Nat) (grs : List ImR) (w : World) (hc : Crd w) (hg : IV.In w w.heap.size ⟨gA, gc, grs⟩) (hn : grs.length = n) :
    Calls Try.prog 5 #[.agg #[.int .i64 z, .int .i64 d, .int .i64 s, .int .i64 l, .int .i64 a], .int .i64 sq, .int .i64 ep, .slice gA n gc] w fun e w' => e = .returned (.bool true) ∧ Below w.heap.size w w' := by
  by_cases hh : Hvy (ids grs)
  · exact txns_out n z d s l a sq ep gA gc grs w hg hn hh
  have hdl : (ids grs).length = n := by rw [ids_length, hn]
  by_cases ho : Ok z d s l a
  case neg => exact txns_no 1 n z d s l a sq ep gA gc grs w hc hg hn hh (by decide) (.inl ⟨ho, rfl⟩)
  by_cases h1 : NumOk sq ∧ NumOk ep ∧ ImsOk z d (ids grs)
  case neg => exact txns_no 1 n z d s l a sq ep gA gc grs w hc hg hn hh (by decide) (.inr (.inl ⟨ho, h1, rfl⟩))
  by_cases h2 : 1 ≤ (ids grs).length ∧ (ids grs).length ≤ 29
  · exact txns_main n z d s l a sq ep gA gc grs w hc ho hg hn hh h1.1 h1.2.1 h1.2.2 (by omega)
  · exact txns_no 2 n z d s l a sq ep gA gc grs w hc hg hn hh (by decide) (.inr (.inr ⟨ho, h1, h2, rfl⟩))
end Go.Proofs.Ytplhdnhigboeaaa.lrc
