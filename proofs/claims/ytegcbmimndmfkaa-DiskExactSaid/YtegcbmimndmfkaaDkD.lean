/-
  casematekeep.Disk: are two disks the same? Conditions: rows and byte strings shorter than 2^20.
-/
import Derived.Test.YtegcbmimndmfkaaDkF
import Derived.Test.YtegcbmimndmfkaaDkQ
namespace Go.Proofs.Ytegcbmimndmfkaa.dsk
open Go.RowKit Go.Lib

set_option maxHeartbeats 2000000 in
theorem disk_any (x y : DV) (w : World) (hx : x.In w w.heap.size) (hy : y.In w w.heap.size) (hn : x.cs.length ≤ 1048576 ∧ x.ws.length ≤ 1048576) (hs : CShort 1048576 x.cs) (ht : WShort 1048576 x.ws) :
    Calls Try.prog 17 #[x.v, y.v] w fun e w' => e = .returned (.bool (decide (x.d = y.d))) ∧ Below w.heap.size w w' := by
  unfold DV.v
  by_cases h0 : x.cs.length = y.cs.length
  · rw [← h0]
    have H0 := Lib.hid h0
    clear h0
    have cW : ∀ W, Below w.heap.size w W → Calls Try.prog 31 #[.slice x.WA x.ws.length x.wc, .slice y.WA y.ws.length y.wc] W fun e w' => e = .returned (.bool (decide (wds x.ws = wds y.ws))) ∧ Below W.heap.size W w' := fun W hW =>
      writes_any x.WA y.WA x.wc y.wc _ _ x.ws y.ws W rfl rfl (hx.next hW).hw (hy.next hW).hw (hx.next hW).wi (hy.next hW).wi hn.2 ht
    have F1 := (four_new w (.slice x.CA x.cs.length x.cc) (.slice x.WA x.ws.length x.wc) (.int .i64 x.reqs) (.int .i64 x.left) 25).alloc (by simp) (.cells #[.slice y.CA x.cs.length y.cc, .slice y.WA y.ws.length y.wc, .int .i64 y.reqs, .int .i64 y.left] 25)
    have F2 := four_new (w.alloc (.cells #[.slice x.CA x.cs.length x.cc, .slice x.WA x.ws.length x.wc, .int .i64 x.reqs, .int .i64 x.left] 25)) (.slice y.CA x.cs.length y.cc) (.slice y.WA y.ws.length y.wc) (.int .i64 y.reqs) (.int .i64 y.left) 25
    have hb0 := kal (bl w (.cells #[.slice x.CA x.cs.length x.cc, .slice x.WA x.ws.length x.wc, .int .i64 x.reqs, .int .i64 x.left] 25)) (.cells #[.slice y.CA x.cs.length y.cc, .slice y.WA y.ws.length y.wc, .int .i64 y.reqs, .int .i64 y.left] 25)
    have l1 : w.heap.size + 1 < ((w.alloc (.cells #[.slice x.CA x.cs.length x.cc, .slice x.WA x.ws.length x.wc, .int .i64 x.reqs, .int .i64 x.left] 25)).alloc (.cells #[.slice y.CA x.cs.length y.cc, .slice y.WA y.ws.length y.wc, .int .i64 y.reqs, .int .i64 y.left] 25)).heap.size := by simp
    rw [show (w.alloc (.cells #[.slice x.CA x.cs.length x.cc, .slice x.WA x.ws.length x.wc, .int .i64 x.reqs, .int .i64 x.left] 25)).heap.size = w.heap.size + 1 by simp] at F2
    go_enter Try.func17, Try.ntmps17
    go_wp2_with fail
    generalize ((w.alloc (.cells #[.slice x.CA x.cs.length x.cc, .slice x.WA x.ws.length x.wc, .int .i64 x.reqs, .int .i64 x.left] 25)).alloc (.cells #[.slice y.CA x.cs.length y.cc, .slice y.WA y.ws.length y.wc, .int .i64 y.reqs, .int .i64 y.left] 25)) = w0 at *
    go_at_call 31
    (with_reducible refine (cW _ hb0).mono ?_)
    rintro e wx ⟨rfl, hbx⟩
    have hb := bt hb0 hbx
    have F3 := F1.keep hbx (by omega)
    have F4 := F2.keep hbx l1
    have l2 : w.heap.size + 1 < wx.heap.size := Nat.lt_of_lt_of_le l1 hbx.size
    clear cW F1 F2 hb0 l1 hbx w0
    have g0 := F3.c0
    have g1 := F4.c0
    have g2 := F3.c2
    have g3 := F4.c2
    have g4 := F3.c3
    have g5 := F4.c3
    clear F3 F4
    by_cases hw : wds x.ws = wds y.ws
    · have hd : decide (wds x.ws = wds y.ws) = true := decide_eq_true hw
      simp only [hd]
      by_cases hq : x.reqs = y.reqs
      · have q1 : (x.reqs != y.reqs) = false := by rw [hq]; exact bne_self_eq_false _
        by_cases hl : x.left = y.left
        · have q2 : (x.left != y.left) = false := by rw [hl]; exact bne_self_eq_false _
          have HW := Lib.hid hw
          have HQ := Lib.hid hq
          have HL := Lib.hid hl
          clear hw hd hq hl
          go_wp2_with fail
          go_loopw [5] (fun i w' => ∃ k : Nat, k ≤ x.cs.length ∧ i = .int .i64 k ∧ (cds x.cs).take k = (cds y.cs).take k ∧ Below wx.heap.size wx w') (fun i _ => x.cs.length - (RowKit.intOf i).toNat)
          case atStart => exact ⟨0, by omega, rfl, rfl, Below.refl _ _⟩
          case round =>
            rename_i wr
            obtain ⟨k, hk, rfl, hs2, hbr⟩ := hrel
            have hn1 := hn.1
            have lw := hbr.size
            have g0 := kst hbr (by omega) g0
            have g1 := kst hbr (by omega) g1
            have hbw := bt hb hbr
            by_cases hlt : k < x.cs.length
            · have i1 : (k : Int) < (x.cs.length : Int) := by omega
              have lk : k < y.cs.length := by have := H0.out; omega
              have hX := hx.next hbw
              have hY := hy.next hbw
              obtain ⟨b1, off, u, e3, hb1, r0, r1, r2, m1, m2, hu, -, e1⟩ := cell_at hX.hc hX.ci hlt
              obtain ⟨b2, off', v, e4, hb2, s0, s1, s2, m3, m4, -, -, e2⟩ := cell_at hY.hc hY.ci lk
              have m5 := hs _ hu
              rw [e3] at g0
              rw [e4] at g1
              by_cases hst : u.st = v.st
              · have n1 : (u.st != u.st) = false := bne_self_eq_false _
                rw [← hst] at s0
                have cB : ∀ n, Calls Try.prog 23 #[.slice u.b.A u.b.l.length u.b.c, .slice v.b.A v.b.l.length v.b.c] (wr.drewN n) fun e w' => e = .returned (.bool (decide (u.b.l = v.b.l))) ∧ ∃ m, w' = (wr.drewN n).drewN m := fun n =>
                  keep_any_q _ _ _ _ _ _ _ _ _ (m1.below (below_dn (Below.refl _ _) n)).1 (m3.below (below_dn (Below.refl _ _) n)).1 (Nat.le_refl _) (Nat.le_refl _) m5.1
                have cO : ∀ n, Calls Try.prog 23 #[.slice u.o.A u.o.l.length u.o.c, .slice v.o.A v.o.l.length v.o.c] (wr.drewN n) fun e w' => e = .returned (.bool (decide (u.o.l = v.o.l))) ∧ ∃ m, w' = (wr.drewN n).drewN m := fun n =>
                  keep_any_q _ _ _ _ _ _ _ _ _ (m2.below (below_dn (Below.refl _ _) n)).1 (m4.below (below_dn (Below.refl _ _) n)).1 (Nat.le_refl _) (Nat.le_refl _) m5.2
                have lx : w.heap.size + 1 < wr.heap.size := by omega
                by_cases hbs : u.b.l = v.b.l
                · rw [show (decide (u.b.l = v.b.l)) = true from decide_eq_true hbs] at cB
                  have HB := Lib.hid hbs
                  have HS := Lib.hid hst
                  have HT := Lib.hid hs2
                  have H1 := Lib.hid e1
                  have H2 := Lib.hid e2
                  clear hbs hst hs2 e1 e2
                  clear m1 m2 m3 m4 m5 hX hY hu H0 hx hy hs ht e3 e4 g2 g3 g4 g5
                  go_wp2_with fail
                  by_cases hos : u.o.l = v.o.l
                  · rw [show (decide (u.o.l = v.o.l)) = true from decide_eq_true hos] at cO
                    have HO := Lib.hid hos
                    clear hos
                    go_quiet (first
                      | (go_at_call 23; with_reducible refine Calls.quiet_of (cB _))
                      | (go_at_call 23; with_reducible refine Calls.quiet_of (cO _)))
                    go_wp2_with fail
                    go_roundw
                    case rel => exact ⟨k + 1, by omega, by go_num, take_same HT.out H1.out H2.out (by unfold CellR.d; rw [HS.out, HB.out, HO.out]), below_dn hbr _⟩
                    case measure => simp [RowKit.intOf]; omega
                  · rw [show (decide (u.o.l = v.o.l)) = false from decide_eq_false hos] at cO
                    have H : Hid (decide (x.d = y.d) = false) := decide_eq_false fun e => take_other H1.out H2.out (fun e => hos (congrArg Cel.old e)) (congrArg Dsk.cells e)
                    clear hos
                    go_quiet (first
                      | (go_at_call 23; with_reducible refine Calls.quiet_of (cB _))
                      | (go_at_call 23; with_reducible refine Calls.quiet_of (cO _)))
                    go_wp2_with fail
                    go_ret
                    exact ⟨ret_bool H.out.symm, below_dn hbw _⟩
                · rw [show (decide (u.b.l = v.b.l)) = false from decide_eq_false hbs] at cB
                  have H : Hid (decide (x.d = y.d) = false) := decide_eq_false fun e => take_other e1 e2 (fun e => hbs (congrArg Cel.bs e)) (congrArg Dsk.cells e)
                  clear hbs hst hs2 e1 e2
                  clear m1 m2 m3 m4 m5 hX hY hu H0 hx hy hs ht e3 e4 g2 g3 g4 g5
                  go_wp2_with fail
                  go_quiet ((go_at_call 23; with_reducible refine Calls.quiet_of (cB _)))
                  go_wp2_with fail
                  go_ret
                  exact ⟨ret_bool H.out.symm, below_dn hbw _⟩
              · have n1 : (u.st != v.st) = true := bne_iff_ne.2 hst
                have H : Hid (decide (x.d = y.d) = false) := decide_eq_false fun e => take_other e1 e2 (fun e => hst (congrArg Cel.st e)) (congrArg Dsk.cells e)
                clear m1 m2 m3 m4 m5 hX hY hu H0 hx hy hs ht e3 e4 g2 g3 g4 g5 e1 e2 hs2
                go_wp2_with fail
                go_quiet (fail)
                go_wp2_with fail
                go_ret
                exact ⟨ret_bool H.out.symm, below_dn hbw _⟩
            · have H : Hid (decide (x.d = y.d) = true) := by
                have := H0.out
                rw [List.take_of_length_le (by rw [cds_length]; omega), List.take_of_length_le (by rw [cds_length]; omega)] at hs2
                refine decide_eq_true ?_
                show (⟨cds x.cs, wds x.ws, x.reqs, x.left⟩ : Dsk) = ⟨cds y.cs, wds y.ws, y.reqs, y.left⟩
                rw [hs2, HW.out, HQ.out, HL.out]
              go_wp2_with fail
              go_ret
              exact ⟨ret_bool H.out.symm, hbw⟩
        · have q2 : (x.left != y.left) = true := bne_iff_ne.2 hl
          have H : Hid (decide (x.d = y.d) = false) := decide_eq_false fun e => hl (congrArg Dsk.left e)
          go_wp2_with fail
          go_ret
          exact ⟨ret_bool H.out.symm, hb⟩
      · have q1 : (x.reqs != y.reqs) = true := bne_iff_ne.2 hq
        have H : Hid (decide (x.d = y.d) = false) := decide_eq_false fun e => hq (congrArg Dsk.reqs e)
        go_wp2_with fail
        go_ret
        exact ⟨ret_bool H.out.symm, hb⟩
    · have hd : decide (wds x.ws = wds y.ws) = false := decide_eq_false hw
      simp only [hd]
      have H : Hid (decide (x.d = y.d) = false) := decide_eq_false fun e => hw (congrArg Dsk.cache e)
      go_wp2_with fail
      go_ret
      exact ⟨ret_bool H.out.symm, hb⟩
  · have h1 : ((x.cs.length : Int) == (y.cs.length : Int)) = false := beq_eq_false_iff_ne.2 (by omega)
    have h2 : ((x.cs.length : Int) != (y.cs.length : Int)) = true := bne_iff_ne.2 (by omega)
    have H : Hid (decide (x.d = y.d) = false) := decide_eq_false fun e => h0 (by have := congrArg (fun d => d.cells.length) e; simpa [DV.d, cds_length] using this)
    go_enter Try.func17, Try.ntmps17
    go_wp2_with fail
    go_ret
    exact ⟨ret_bool H.out.symm, kal (bl _ _) _⟩
end Go.Proofs.Ytegcbmimndmfkaa.dsk
