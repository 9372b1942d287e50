/-
  RecCells: a record's cell is a sector of that slot's address, its number the stamp; both copies differ in the address alone. Conditions: 'Crd'.
-/
import Derived.Test.YtplhdnhigboeaaaRcQ
import Derived.Test.YtplhdnhigboeaaaGGm
import Derived.Test.YtplhdnhigboeaaaRcT
import Derived.Test.YtplhdnhigboeaaaGSl
namespace Go.Proofs.Ytplhdnhigboeaaa.lrc
open Go.RowKit Go.Lib
open Go.Proofs.Ytplhdnhigboeaaa.gmt (Ok)
open Go.Proofs.Ytplhdnhigboeaaa.anc (bl kal kst ks bm ka)
open Go.Proofs.Ytplhdnhigboeaaa.tbl (C1 c1_new G5 g5_new)
open Go.Proofs.Ytplhdnhigboeaaa.img

set_option maxRecDepth 100000 in
set_option maxHeartbeats 8000000 in
theorem cells_main (k n : Nat) (z d s l a sl : Int) (r : RcR) (w : World) (hc : Crd w) (ho : Ok z d s l a) (hx : BIn w w.heap.size r.i) (hn : r.i.l.length = n) (hr : RecOk z d r.d) (hk : (IntKind.u64.wrap sl).tmod l = (k : Int)) (hkl : (k : Int) < l) :
    Calls Try.prog 6 #[.agg #[.int .i64 z, .int .i64 d, .int .i64 s, .int .i64 l, .int .i64 a], .agg #[.int .i64 r.kd, .int .i64 r.sq, .int .i64 r.ep, .int .i64 r.ps, .int .i64 r.nm, .int .i64 r.i.z, .int .i64 r.i.wh, .slice r.i.A n r.i.c], .int .i64 sl] w fun e w' => e = .returned (.bool true) ∧ Below w.heap.size w w' := by
  have hd := ho.2.1
  have hn45 := (recOk_len hr hd).1
  have hn46 : n ≤ 45 := by rw [← hn]; exact hn45
  have hl30 := ho.2.2.2.1
  have ha3 := ho.2.2.2.2
  have hlen := encR_short hr hd
  have hsq : 0 ≤ r.sq ∧ r.sq ≤ 4294967295 := by
    rcases hr with ⟨-, h, -⟩ | ⟨h, -⟩ | ⟨h, -⟩
    · have h' : r.sq = 0 := h
      omega
    · exact h.1
    · exact h.1
  have HC := Lib.hid hc
  have HO := Lib.hid ho
  have HR := Lib.hid hr
  have HN := Lib.hid hn
  have HGO := Lib.hid fun W => gmt.rgeo_at true z d s l a W (iff_of_true rfl ho)
  have s1 : (w.alloc (.cells #[.int .i64 z, .int .i64 d, .int .i64 s, .int .i64 l, .int .i64 a] 23)).heap.size = w.heap.size + 1 := by simp
  have hx2 := bl (w.alloc (.cells #[.int .i64 z, .int .i64 d, .int .i64 s, .int .i64 l, .int .i64 a] 23)) (.cells #[.int .i64 r.kd, .int .i64 r.sq, .int .i64 r.ep, .int .i64 r.ps, .int .i64 r.nm, .int .i64 r.i.z, .int .i64 r.i.wh, .slice r.i.A n r.i.c] 28)
  have GG := (g5_new w z d s l a).keep hx2 (by omega)
  have XX := c8_new (w.alloc (.cells #[.int .i64 z, .int .i64 d, .int .i64 s, .int .i64 l, .int .i64 a] 23)) (.int .i64 r.kd) (.int .i64 r.sq) (.int .i64 r.ep) (.int .i64 r.ps) (.int .i64 r.nm) (.int .i64 r.i.z) (.int .i64 r.i.wh) (.slice r.i.A n r.i.c) 28
  rw [s1] at XX
  have hw := kal (bl w (.cells #[.int .i64 z, .int .i64 d, .int .i64 s, .int .i64 l, .int .i64 a] 23)) (.cells #[.int .i64 r.kd, .int .i64 r.sq, .int .i64 r.ep, .int .i64 r.ps, .int .i64 r.nm, .int .i64 r.i.z, .int .i64 r.i.wh, .slice r.i.A n r.i.c] 28)
  have l2 : ((w.alloc (.cells #[.int .i64 z, .int .i64 d, .int .i64 s, .int .i64 l, .int .i64 a] 23)).alloc (.cells #[.int .i64 r.kd, .int .i64 r.sq, .int .i64 r.ep, .int .i64 r.ps, .int .i64 r.nm, .int .i64 r.i.z, .int .i64 r.i.wh, .slice r.i.A n r.i.c] 28)).heap.size = w.heap.size + 2 := by simp
  have HX := Lib.hid hx
  have HRF := Lib.hid (show ∀ W, Below w.heap.size w W → Calls Try.prog 25 #[.agg #[.int .i64 z, .int .i64 d, .int .i64 s, .int .i64 l, .int .i64 a], .agg #[.int .i64 r.kd, .int .i64 r.sq, .int .i64 r.ep, .int .i64 r.ps, .int .i64 r.nm, .int .i64 r.i.z, .int .i64 r.i.wh, .slice r.i.A n r.i.c]] W fun e w' => e = .returned (.bool true) ∧ Below W.heap.size W w' from fun W hW => rrec_c true z d s l a r n W ho (hx.next hW) hn (by omega) (iff_of_true rfl hr))
  have i200 : ¬ (200 : Int) < (n : Int) := by omega
  clear hc ho hx hr s1 hx2
  go_enter Try.func6, Try.ntmps6
  go_upto_region 1 with fail
  generalize ((w.alloc (.cells #[.int .i64 z, .int .i64 d, .int .i64 s, .int .i64 l, .int .i64 a] 23)).alloc (.cells #[.int .i64 r.kd, .int .i64 r.sq, .int .i64 r.ep, .int .i64 r.ps, .int .i64 r.nm, .int .i64 r.i.z, .int .i64 r.i.wh, .slice r.i.A n r.i.c] 28)) = w0 at *
  obtain ⟨g0, g1, g2, g3, g4⟩ := id GG
  obtain ⟨x0, x1, x2, x3, x4, x5, x6, x7⟩ := id XX
  go_upto_region 3 with (first
    | (go_at_call 16; (with_reducible refine (HGO.out _).mono ?_); rintro e w1 ⟨rfl, hb1⟩; have hw1 := bt hw hb1; have GG1 := GG.keep hb1 (by omega); have XX1 := XX.keep hb1 (by omega); clear g0 g1 g2 g3 g4 x0 x1 x2 x3 x4 x5 x6 x7; obtain ⟨g0, g1, g2, g3, g4⟩ := id GG1; obtain ⟨x0, x1, x2, x3, x4, x5, x6, x7⟩ := id XX1; have lw1 := hb1.size)
    | (go_at_call 25; (with_reducible refine (HRF.out _ hw1).mono ?_); rintro e w2 ⟨rfl, hb2⟩; have hw2 := bt hw1 hb2; have GG2 := GG1.keep hb2 (by omega); have XX2 := XX1.keep hb2 (by omega); have lw2 := hb2.size))
  clear g0 g1 g2 g3 g4 x0 x1 x2 x3 x4 x5 x6 x7 hb1 hb2 GG XX GG1 XX1 hw hw1 HRF HGO
  obtain ⟨g0, g1, g2, g3, g4⟩ := id GG2
  obtain ⟨x0, x1, x2, x3, x4, x5, x6, x7⟩ := id XX2
  have q0 : ¬ (IntKind.u64.wrap l) = 0 := by rw [IntWalk.u64_in l (by omega)]; omega
  have q1 : ((IntKind.u64.wrap l) == 0) = false := beq_eq_false_iff_ne.2 q0
  have hkw : IntKind.i64.wrap (k : Int) = k := IntWalk.i64_in _ (by omega)
  go_upto_region 4 with fail
  obtain ⟨E, hE⟩ : ∃ E, E = encR r.d := ⟨_, rfl⟩
  obtain ⟨q, hq⟩ : ∃ q, q = E.length := ⟨_, rfl⟩
  have hq59 : 11 ≤ q ∧ q ≤ 59 := by rw [hq, hE]; exact hlen
  have hsn : (r.sq.toNat : Int) = r.sq := by omega
  have hA0 : cellN l a 0 k < 65536 ∧ (cellN l a 0 k : Int) = a + k := by unfold cellN; omega
  have hA1 : cellN l a 1 k < 65536 ∧ (cellN l a 1 k : Int) = a + l + k := by unfold cellN; omega
  have hEo : RdOk z d E := by rw [hE]; exact rdOk_of HR.out HO.out.1.2 hd
  have hEr : recN E = r.d := by rw [hE]; exact (recN_of HR.out HO.out.1.2 hd).1
  have CE : ∀ (cp : Int) (N : Nat), (cp = 0 ∨ cp = 1) → ∀ W, Below w.heap.size w W → Calls Try.prog 14 #[.agg #[.int .i64 z, .int .i64 d, .int .i64 s, .int .i64 l, .int .i64 a], .agg #[.int .i64 r.kd, .int .i64 r.sq, .int .i64 r.ep, .int .i64 r.ps, .int .i64 r.nm, .int .i64 r.i.z, .int .i64 r.i.wh, .slice r.i.A n r.i.c], .int .i64 cp, .int .i64 k] W fun e w' => (∃ (X : Option Addr) (c : Nat), e = .returned (.tuple #[.slice X (q + 11 : Nat) c, .int .i64 0]) ∧ Own w' W.heap.size 5 (.slice X (q + 11 : Nat) c) (sel.enc (cellN l a cp k) r.sq.toNat E)) ∧ Below W.heap.size W w' := fun cp _ hcp W hW => by
    have h9 := HC.out.cell z d s l a cp k r n W hW HO.out (HX.out.next hW) HN.out HR.out ⟨hcp, by omega, by omega⟩
    unfold BytR at h9
    rw [← hE, sel.enc_length, ← hq] at h9
    exact h9
  have C0 := Lib.hid (CE 0 0 (.inl rfl))
  have C1' := Lib.hid (CE 1 0 (.inr rfl))
  have OP : ∀ (A : Nat) (v : Int), A < 65536 → (A : Int) = v → ∀ (W : World) (X : Option Addr) (c : Nat), Sl W W.heap.size X (sel.enc A r.sq.toNat E) → q + 11 ≤ c → c ≤ maxLen → Calls Try.prog 31 #[.slice X (q + 11 : Nat) c] W fun e w' => (∃ (Y : Option Addr) (y : Nat), e = .returned (.tuple #[.agg #[.int .i64 v, .int .i64 r.sq, .slice Y q y], .int .i64 0]) ∧ Own w' W.heap.size 5 (.slice Y q y) E) ∧ Below W.heap.size W w' := fun A v hA hv W X c hs h1 h2 => by
    have h9 := sel.open_any (q + 11) X c (sel.enc A r.sq.toNat E) W (by rw [sel.enc_length, ← hq]) h1 h2 hs
    rw [sel.opened_enc hA (by omega) (by omega)] at h9
    refine h9.mono ?_
    rintro e w' ⟨ho, hb⟩
    obtain ⟨Y, y0, y, rfl, ho2⟩ := ho.at
    have hl := (own_bytes ho2).1
    have hl2 : y0 = q := by rw [hq]; exact hl.symm
    subst hl2
    refine ⟨⟨Y, y, ?_, ho2⟩, hb⟩
    show Ending.returned (.tuple #[.agg #[.int .i64 (A : Int), .int .i64 (r.sq.toNat : Int), .slice Y y0 y], .int .i64 ((0 : Nat) : Int)]) = _
    rw [hv, hsn]
    rfl
  have O0 := Lib.hid (OP _ _ hA0.1 hA0.2)
  have O1 := Lib.hid (OP _ _ hA1.1 hA1.2)
  have HRD := Lib.hid (show ∀ (W : World) (Y : Option Addr) (y : Nat), Below w.heap.size w W → Sl W W.heap.size Y E → q ≤ y → y ≤ maxLen → Calls Try.prog 12 #[.agg #[.int .i64 z, .int .i64 d, .int .i64 s, .int .i64 l, .int .i64 a], .slice Y q y] W fun e w' => (∃ (Z : Option Addr) (zc : Nat), e = .returned (.tuple #[.agg #[.int .i64 r.kd, .int .i64 r.sq, .int .i64 r.ep, .int .i64 r.ps, .int .i64 r.nm, .int .i64 r.i.z, .int .i64 r.i.wh, .slice Z n zc], .int .i64 0]) ∧ BIn w' w'.heap.size ⟨r.i.z, r.i.wh, Z, zc, r.i.l⟩) ∧ Below W.heap.size W w' from fun W Y y hW hs h1 h2 => by
    have h9 := HC.out.read z d s l a Y q y E W hW HO.out hq.symm h1 h2 (by omega) hs hEo
    rw [hEr] at h9
    refine h9.mono ?_
    rintro e w' ⟨⟨Z, zc, rfl, ho⟩, hb⟩
    have hoz := own_bytes ho
    refine ⟨⟨Z, zc, ?_, hoz.2.2.2, hoz.2.1, hoz.2.2.1⟩, hb⟩
    show Ending.returned (.tuple #[.agg #[.int .i64 r.kd, .int .i64 r.sq, .int .i64 r.ep, .int .i64 r.ps, .int .i64 r.nm, .int .i64 r.i.z, .int .i64 r.i.wh, .slice Z r.i.l.length zc], .int .i64 0]) = _
    rw [HN.out])
  have HEQ := Lib.hid hq
  clear CE OP hE hq hsn hA0 hA1 hEo hEr hlen hsq hn45 q0 q1 hkw hk
  go_upto_region 5 with (go_at_call 14; (with_reducible refine (C0.out _ hw2).mono ?_); rintro e w3 ⟨⟨X, xc, rfl, ho3⟩, hb3⟩)
  have lw3 := hb3.size
  have HO3 := Lib.hid ho3
  replace g0 := kst hb3 (by omega) g0; replace g1 := kst hb3 (by omega) g1; replace g2 := kst hb3 (by omega) g2; replace g3 := kst hb3 (by omega) g3; replace g4 := kst hb3 (by omega) g4; replace x0 := kst hb3 (by omega) x0; replace x1 := kst hb3 (by omega) x1; replace x2 := kst hb3 (by omega) x2; replace x3 := kst hb3 (by omega) x3; replace x4 := kst hb3 (by omega) x4; replace x5 := kst hb3 (by omega) x5; replace x6 := kst hb3 (by omega) x6; replace x7 := kst hb3 (by omega) x7
  have hw3 := bt hw2 hb3
  clear hb3 ho3 C0
  go_upto_region 6 with (go_at_call 14; (with_reducible refine (C1'.out _ hw3).mono ?_); rintro e w4 ⟨⟨Y, yc, rfl, ho4⟩, hb4⟩)
  have lw4 := hb4.size
  have HO4 := Lib.hid ho4
  have HO34 := Lib.hid (HO3.out.below hb4)
  replace g0 := kst hb4 (by omega) g0; replace g1 := kst hb4 (by omega) g1; replace g2 := kst hb4 (by omega) g2; replace g3 := kst hb4 (by omega) g3; replace g4 := kst hb4 (by omega) g4; replace x0 := kst hb4 (by omega) x0; replace x1 := kst hb4 (by omega) x1; replace x2 := kst hb4 (by omega) x2; replace x3 := kst hb4 (by omega) x3; replace x4 := kst hb4 (by omega) x4; replace x5 := kst hb4 (by omega) x5; replace x6 := kst hb4 (by omega) x6; replace x7 := kst hb4 (by omega) x7
  have hw4 := bt hw3 hb4
  clear hb4 ho4 C1' HO3
  obtain ⟨-, k1, k2, k3⟩ := own_bytes HO34.out
  go_upto_region 7 with (go_at_call 31; (with_reducible refine (O0.out _ _ _ k3 k1 k2).mono ?_); rintro e w5 ⟨⟨U, uc, rfl, ho5⟩, hb5⟩)
  have b56 := bl w5 (.cells #[.int .i64 (a + k), .int .i64 r.sq, .slice U q uc] 63)
  have U6 := c3_new w5 (.int .i64 (a + k)) (.int .i64 r.sq) (.slice U q uc) 63
  have b46 := bt hb5 b56
  have HO5 := Lib.hid (ho5.below b56)
  have HO46 := Lib.hid (HO4.out.below b46)
  have lw5 := hb5.size
  have lu6 : w5.heap.size < (w5.alloc (.cells #[.int .i64 (a + k), .int .i64 r.sq, .slice U q uc] 63)).heap.size := by simp
  replace g0 := kst b46 (by omega) g0; replace g1 := kst b46 (by omega) g1; replace g2 := kst b46 (by omega) g2; replace g3 := kst b46 (by omega) g3; replace g4 := kst b46 (by omega) g4; replace x0 := kst b46 (by omega) x0; replace x1 := kst b46 (by omega) x1; replace x2 := kst b46 (by omega) x2; replace x3 := kst b46 (by omega) x3; replace x4 := kst b46 (by omega) x4; replace x5 := kst b46 (by omega) x5; replace x6 := kst b46 (by omega) x6; replace x7 := kst b46 (by omega) x7
  have hw6 := bt hw4 b46
  clear hb5 b56 b46 ho5 HO4 HO34 O0 k1 k2 k3
  generalize hgu : w5.heap.size = gu at *
  clear hgu
  generalize (w5.alloc (.cells #[.int .i64 (a + k), .int .i64 r.sq, .slice U q uc] 63)) = w6 at *
  obtain ⟨-, k1, k2, k3⟩ := own_bytes HO46.out
  go_upto_region 8 with (go_at_call 31; (with_reducible refine (O1.out _ _ _ k3 k1 k2).mono ?_); rintro e w7 ⟨⟨V, vc, rfl, ho7⟩, hb7⟩)
  have b78 := bl w7 (.cells #[.int .i64 (a + l + k), .int .i64 r.sq, .slice V q vc] 63)
  have V8 := c3_new w7 (.int .i64 (a + l + k)) (.int .i64 r.sq) (.slice V q vc) 63
  have b68 := bt hb7 b78
  have HO8 := Lib.hid (ho7.below b78)
  have HO58 := Lib.hid (HO5.out.below b68)
  have lw7 := hb7.size
  have U8 := U6.keep b68 lu6
  have lu8 := Nat.lt_of_lt_of_le lu6 b68.size
  have lv8 : w7.heap.size < (w7.alloc (.cells #[.int .i64 (a + l + k), .int .i64 r.sq, .slice V q vc] 63)).heap.size := by simp
  replace g0 := kst b68 (by omega) g0; replace g1 := kst b68 (by omega) g1; replace g2 := kst b68 (by omega) g2; replace g3 := kst b68 (by omega) g3; replace g4 := kst b68 (by omega) g4; replace x0 := kst b68 (by omega) x0; replace x1 := kst b68 (by omega) x1; replace x2 := kst b68 (by omega) x2; replace x3 := kst b68 (by omega) x3; replace x4 := kst b68 (by omega) x4; replace x5 := kst b68 (by omega) x5; replace x6 := kst b68 (by omega) x6; replace x7 := kst b68 (by omega) x7
  have hw8 := bt hw6 b68
  clear hb7 b78 b68 ho7 HO5 HO46 O1 k1 k2 k3 U6 lu6
  generalize hgv : w7.heap.size = gv at *
  clear hgv
  generalize (w7.alloc (.cells #[.int .i64 (a + l + k), .int .i64 r.sq, .slice V q vc] 63)) = w8 at *
  obtain ⟨u0, u1, u2⟩ := id U8
  obtain ⟨-, k1, k2, k3⟩ := own_bytes HO58.out
  obtain ⟨-, k4, k5, k6⟩ := own_bytes HO8.out
  go_upto_region 9 with (go_at_call 12; (with_reducible refine (HRD.out _ _ _ hw8 k3 k1 k2).mono ?_); rintro e w9 ⟨⟨Z, zc, rfl, hz9⟩, hb9⟩)
  have b90 := bl w9 (.cells #[.int .i64 r.kd, .int .i64 r.sq, .int .i64 r.ep, .int .i64 r.ps, .int .i64 r.nm, .int .i64 r.i.z, .int .i64 r.i.wh, .slice Z n zc] 28)
  have Z0 := c8_new w9 (.int .i64 r.kd) (.int .i64 r.sq) (.int .i64 r.ep) (.int .i64 r.ps) (.int .i64 r.nm) (.int .i64 r.i.z) (.int .i64 r.i.wh) (.slice Z n zc) 28
  have b80 := bt hb9 b90
  have HZ := Lib.hid (show BIn _ _ _ from hz9.next b90)
  have U0 := U8.keep b80 lu8
  have V0 := V8.keep b80 lv8
  have ku := k3.next b80
  have kv := k6.next b80
  replace g0 := kst b80 (by omega) g0; replace g1 := kst b80 (by omega) g1; replace g2 := kst b80 (by omega) g2; replace g3 := kst b80 (by omega) g3; replace g4 := kst b80 (by omega) g4; replace x0 := kst b80 (by omega) x0; replace x1 := kst b80 (by omega) x1; replace x2 := kst b80 (by omega) x2; replace x3 := kst b80 (by omega) x3; replace x4 := kst b80 (by omega) x4; replace x5 := kst b80 (by omega) x5; replace x6 := kst b80 (by omega) x6; replace x7 := kst b80 (by omega) x7
  have hw0 := bt hw8 b80
  have lz : w9.heap.size < (w9.alloc (.cells #[.int .i64 r.kd, .int .i64 r.sq, .int .i64 r.ep, .int .i64 r.ps, .int .i64 r.nm, .int .i64 r.i.z, .int .i64 r.i.wh, .slice Z n zc] 28)).heap.size := by simp
  have lw9 := hb9.size
  have lu0 := Nat.lt_of_lt_of_le lu8 b80.size
  have lv0 := Nat.lt_of_lt_of_le lv8 b80.size
  clear hb9 b90 b80 hz9 HO58 HO8 HRD k3 k6 U8 V8 lu8 lv8 u0 u1 u2
  generalize hgz : w9.heap.size = gz at *
  clear hgz
  generalize (w9.alloc (.cells #[.int .i64 r.kd, .int .i64 r.sq, .int .i64 r.ep, .int .i64 r.ps, .int .i64 r.nm, .int .i64 r.i.z, .int .i64 r.i.wh, .slice Z n zc] 28)) = w10 at *
  obtain ⟨u0, u1, u2⟩ := id U0
  obtain ⟨v0, v1, v2⟩ := id V0
  obtain ⟨z0, z1, z2, z3, z4, z5, z6, z7⟩ := id Z0
  have e1 : ((a + l + k : Int) == (a + k + l)) = true := beq_iff_eq.2 (by omega)
  have m1 : IntKind.i64.wrap (a + k + l) = a + k + l := gmt.w6 _ (by omega) (by omega)
  have m2 : IntKind.i64.wrap (a + k) = a + k := gmt.w6 _ (by omega) (by omega)
  have HKB := Lib.hid (show Calls Try.prog 26 #[.slice U q uc, .slice V q vc] w10 fun e w' => e = .returned (.bool true) ∧ Below w10.heap.size w10 w' from by
    have h9 := keep_any U V uc vc _ _ E E w10 ku kv (Nat.le_refl _) (Nat.le_refl _) (by rw [← HEQ.out]; omega)
    rw [decide_eq_true rfl, ← HEQ.out] at h9
    exact h9)
  have HKR := Lib.hid (show ∀ W, Below w10.heap.size w10 W → Calls Try.prog 19 #[.agg #[.int .i64 r.kd, .int .i64 r.sq, .int .i64 r.ep, .int .i64 r.ps, .int .i64 r.nm, .int .i64 r.i.z, .int .i64 r.i.wh, .slice Z n zc], .agg #[.int .i64 r.kd, .int .i64 r.sq, .int .i64 r.ep, .int .i64 r.ps, .int .i64 r.nm, .int .i64 r.i.z, .int .i64 r.i.wh, .slice r.i.A n r.i.c]] W fun e w' => e = .returned (.bool true) ∧ Below W.heap.size W w' from fun W hW => krec_d true ⟨r.kd, r.sq, r.ep, r.ps, r.nm, ⟨r.i.z, r.i.wh, Z, zc, r.i.l⟩⟩ r n n W (HZ.out.next hW) (HX.out.next (bt hw0 hW)) HN.out HN.out (by omega) (iff_of_true rfl rfl))
  have HWK := Lib.hid (fun W (hW : Below w.heap.size w W) => wk_rec W (HC.out.next hW))
  clear ku kv HZ U0 V0 Z0 k1 k2 k4 k5
  try simp only [List.append_eq, List.cons_append, List.nil_append]
  go_wp2_with (first
    | (go_at_call 26; (with_reducible refine HKB.out.mono ?_); rintro e w11 ⟨rfl, hb11⟩; replace g0 := kst hb11 (by omega) g0; replace g1 := kst hb11 (by omega) g1; replace g2 := kst hb11 (by omega) g2; replace g3 := kst hb11 (by omega) g3; replace g4 := kst hb11 (by omega) g4; replace x0 := kst hb11 (by omega) x0; replace x1 := kst hb11 (by omega) x1; replace x2 := kst hb11 (by omega) x2; replace x3 := kst hb11 (by omega) x3; replace x4 := kst hb11 (by omega) x4; replace x5 := kst hb11 (by omega) x5; replace x6 := kst hb11 (by omega) x6; replace x7 := kst hb11 (by omega) x7; replace z0 := kst hb11 (by omega) z0; replace z1 := kst hb11 (by omega) z1; replace z2 := kst hb11 (by omega) z2; replace z3 := kst hb11 (by omega) z3; replace z4 := kst hb11 (by omega) z4; replace z5 := kst hb11 (by omega) z5; replace z6 := kst hb11 (by omega) z6; replace z7 := kst hb11 (by omega) z7)
    | (go_at_call 19; (with_reducible refine (HKR.out _ hb11).mono ?_); rintro e w12 ⟨rfl, hb12⟩; have hw12 := bt hw0 (bt hb11 hb12))
    | (go_at_call 20; (with_reducible refine (HWK.out _ hw12).mono ?_); rintro e w13 ⟨rfl, hb13⟩))
  go_ret
  exact ⟨rfl, bt hw12 hb13⟩
/-- The law. -/
theorem cells_law (n : Nat) (z d s l a sl : Int) (r : RcR) (w : World) (hc : Crd w) (hx : BIn w w.heap.size r.i) (hn : r.i.l.length = n) :
    Calls Try.prog 6 #[.agg #[.int .i64 z, .int .i64 d, .int .i64 s, .int .i64 l, .int .i64 a], .agg #[.int .i64 r.kd, .int .i64 r.sq, .int .i64 r.ep, .int .i64 r.ps, .int .i64 r.nm, .int .i64 r.i.z, .int .i64 r.i.wh, .slice r.i.A n r.i.c], .int .i64 sl] w fun e w' => e = .returned (.bool true) ∧ Below w.heap.size w w' := by
  by_cases h200 : (200 : Int) < (n : Int)
  case pos =>
    clear hc hx hn
    have s1 : (w.alloc (.cells #[.int .i64 z, .int .i64 d, .int .i64 s, .int .i64 l, .int .i64 a] 23)).heap.size = w.heap.size + 1 := by simp
    have hx2 := bl (w.alloc (.cells #[.int .i64 z, .int .i64 d, .int .i64 s, .int .i64 l, .int .i64 a] 23)) (.cells #[.int .i64 r.kd, .int .i64 r.sq, .int .i64 r.ep, .int .i64 r.ps, .int .i64 r.nm, .int .i64 r.i.z, .int .i64 r.i.wh, .slice r.i.A n r.i.c] 28)
    have GG := (g5_new w z d s l a).keep hx2 (by omega)
    have XX := c8_new (w.alloc (.cells #[.int .i64 z, .int .i64 d, .int .i64 s, .int .i64 l, .int .i64 a] 23)) (.int .i64 r.kd) (.int .i64 r.sq) (.int .i64 r.ep) (.int .i64 r.ps) (.int .i64 r.nm) (.int .i64 r.i.z) (.int .i64 r.i.wh) (.slice r.i.A n r.i.c) 28
    rw [s1] at XX
    have hw := kal (bl w (.cells #[.int .i64 z, .int .i64 d, .int .i64 s, .int .i64 l, .int .i64 a] 23)) (.cells #[.int .i64 r.kd, .int .i64 r.sq, .int .i64 r.ep, .int .i64 r.ps, .int .i64 r.nm, .int .i64 r.i.z, .int .i64 r.i.wh, .slice r.i.A n r.i.c] 28)
    have l2 : ((w.alloc (.cells #[.int .i64 z, .int .i64 d, .int .i64 s, .int .i64 l, .int .i64 a] 23)).alloc (.cells #[.int .i64 r.kd, .int .i64 r.sq, .int .i64 r.ep, .int .i64 r.ps, .int .i64 r.nm, .int .i64 r.i.z, .int .i64 r.i.wh, .slice r.i.A n r.i.c] 28)).heap.size = w.heap.size + 2 := by simp
    clear s1 hx2
    go_enter Try.func6, Try.ntmps6
    go_upto_region 1 with fail
    generalize ((w.alloc (.cells #[.int .i64 z, .int .i64 d, .int .i64 s, .int .i64 l, .int .i64 a] 23)).alloc (.cells #[.int .i64 r.kd, .int .i64 r.sq, .int .i64 r.ep, .int .i64 r.ps, .int .i64 r.nm, .int .i64 r.i.z, .int .i64 r.i.wh, .slice r.i.A n r.i.c] 28)) = w0 at *
    obtain ⟨g0, g1, g2, g3, g4⟩ := id GG
    obtain ⟨x0, x1, x2, x3, x4, x5, x6, x7⟩ := id XX
    go_wp2_with fail
    go_ret
    exact ⟨rfl, hw⟩
  by_cases ho : Ok z d s l a
  case neg =>
    have HG := Lib.hid fun W => gmt.rgeo_at false z d s l a W (iff_of_false Bool.false_ne_true ho)
    clear hc hx hn ho
    have s1 : (w.alloc (.cells #[.int .i64 z, .int .i64 d, .int .i64 s, .int .i64 l, .int .i64 a] 23)).heap.size = w.heap.size + 1 := by simp
    have hx2 := bl (w.alloc (.cells #[.int .i64 z, .int .i64 d, .int .i64 s, .int .i64 l, .int .i64 a] 23)) (.cells #[.int .i64 r.kd, .int .i64 r.sq, .int .i64 r.ep, .int .i64 r.ps, .int .i64 r.nm, .int .i64 r.i.z, .int .i64 r.i.wh, .slice r.i.A n r.i.c] 28)
    have GG := (g5_new w z d s l a).keep hx2 (by omega)
    have XX := c8_new (w.alloc (.cells #[.int .i64 z, .int .i64 d, .int .i64 s, .int .i64 l, .int .i64 a] 23)) (.int .i64 r.kd) (.int .i64 r.sq) (.int .i64 r.ep) (.int .i64 r.ps) (.int .i64 r.nm) (.int .i64 r.i.z) (.int .i64 r.i.wh) (.slice r.i.A n r.i.c) 28
    rw [s1] at XX
    have hw := kal (bl w (.cells #[.int .i64 z, .int .i64 d, .int .i64 s, .int .i64 l, .int .i64 a] 23)) (.cells #[.int .i64 r.kd, .int .i64 r.sq, .int .i64 r.ep, .int .i64 r.ps, .int .i64 r.nm, .int .i64 r.i.z, .int .i64 r.i.wh, .slice r.i.A n r.i.c] 28)
    have l2 : ((w.alloc (.cells #[.int .i64 z, .int .i64 d, .int .i64 s, .int .i64 l, .int .i64 a] 23)).alloc (.cells #[.int .i64 r.kd, .int .i64 r.sq, .int .i64 r.ep, .int .i64 r.ps, .int .i64 r.nm, .int .i64 r.i.z, .int .i64 r.i.wh, .slice r.i.A n r.i.c] 28)).heap.size = w.heap.size + 2 := by simp
    clear s1 hx2
    go_enter Try.func6, Try.ntmps6
    go_upto_region 1 with fail
    generalize ((w.alloc (.cells #[.int .i64 z, .int .i64 d, .int .i64 s, .int .i64 l, .int .i64 a] 23)).alloc (.cells #[.int .i64 r.kd, .int .i64 r.sq, .int .i64 r.ep, .int .i64 r.ps, .int .i64 r.nm, .int .i64 r.i.z, .int .i64 r.i.wh, .slice r.i.A n r.i.c] 28)) = w0 at *
    obtain ⟨g0, g1, g2, g3, g4⟩ := id GG
    obtain ⟨x0, x1, x2, x3, x4, x5, x6, x7⟩ := id XX
    go_wp2_with (go_at_call 16; (with_reducible refine (HG.out _).mono ?_); rintro e w1 ⟨rfl, hb1⟩)
    go_ret
    exact ⟨rfl, bt hw hb1⟩
  by_cases hr : RecOk z d r.d
  case neg =>
    have HG := Lib.hid fun W => gmt.rgeo_at true z d s l a W (iff_of_true rfl ho)
    have HRF := Lib.hid (show ∀ W, Below w.heap.size w W → Calls Try.prog 25 #[.agg #[.int .i64 z, .int .i64 d, .int .i64 s, .int .i64 l, .int .i64 a], .agg #[.int .i64 r.kd, .int .i64 r.sq, .int .i64 r.ep, .int .i64 r.ps, .int .i64 r.nm, .int .i64 r.i.z, .int .i64 r.i.wh, .slice r.i.A n r.i.c]] W fun e w' => e = .returned (.bool false) ∧ Below W.heap.size W w' from fun W hW => rrec_c false z d s l a r n W ho (hx.next hW) hn (by omega) (iff_of_false Bool.false_ne_true hr))
    clear hc hx hn ho hr
    have s1 : (w.alloc (.cells #[.int .i64 z, .int .i64 d, .int .i64 s, .int .i64 l, .int .i64 a] 23)).heap.size = w.heap.size + 1 := by simp
    have hx2 := bl (w.alloc (.cells #[.int .i64 z, .int .i64 d, .int .i64 s, .int .i64 l, .int .i64 a] 23)) (.cells #[.int .i64 r.kd, .int .i64 r.sq, .int .i64 r.ep, .int .i64 r.ps, .int .i64 r.nm, .int .i64 r.i.z, .int .i64 r.i.wh, .slice r.i.A n r.i.c] 28)
    have GG := (g5_new w z d s l a).keep hx2 (by omega)
    have XX := c8_new (w.alloc (.cells #[.int .i64 z, .int .i64 d, .int .i64 s, .int .i64 l, .int .i64 a] 23)) (.int .i64 r.kd) (.int .i64 r.sq) (.int .i64 r.ep) (.int .i64 r.ps) (.int .i64 r.nm) (.int .i64 r.i.z) (.int .i64 r.i.wh) (.slice r.i.A n r.i.c) 28
    rw [s1] at XX
    have hw := kal (bl w (.cells #[.int .i64 z, .int .i64 d, .int .i64 s, .int .i64 l, .int .i64 a] 23)) (.cells #[.int .i64 r.kd, .int .i64 r.sq, .int .i64 r.ep, .int .i64 r.ps, .int .i64 r.nm, .int .i64 r.i.z, .int .i64 r.i.wh, .slice r.i.A n r.i.c] 28)
    have l2 : ((w.alloc (.cells #[.int .i64 z, .int .i64 d, .int .i64 s, .int .i64 l, .int .i64 a] 23)).alloc (.cells #[.int .i64 r.kd, .int .i64 r.sq, .int .i64 r.ep, .int .i64 r.ps, .int .i64 r.nm, .int .i64 r.i.z, .int .i64 r.i.wh, .slice r.i.A n r.i.c] 28)).heap.size = w.heap.size + 2 := by simp
    clear s1 hx2
    go_enter Try.func6, Try.ntmps6
    go_upto_region 1 with fail
    generalize ((w.alloc (.cells #[.int .i64 z, .int .i64 d, .int .i64 s, .int .i64 l, .int .i64 a] 23)).alloc (.cells #[.int .i64 r.kd, .int .i64 r.sq, .int .i64 r.ep, .int .i64 r.ps, .int .i64 r.nm, .int .i64 r.i.z, .int .i64 r.i.wh, .slice r.i.A n r.i.c] 28)) = w0 at *
    obtain ⟨g0, g1, g2, g3, g4⟩ := id GG
    obtain ⟨x0, x1, x2, x3, x4, x5, x6, x7⟩ := id XX
    go_wp2_with (first
      | (go_at_call 16; (with_reducible refine (HG.out _).mono ?_); rintro e w1 ⟨rfl, hb1⟩; replace g0 := kst hb1 (by omega) g0; replace g1 := kst hb1 (by omega) g1; replace g2 := kst hb1 (by omega) g2; replace g3 := kst hb1 (by omega) g3; replace g4 := kst hb1 (by omega) g4; replace x0 := kst hb1 (by omega) x0; replace x1 := kst hb1 (by omega) x1; replace x2 := kst hb1 (by omega) x2; replace x3 := kst hb1 (by omega) x3; replace x4 := kst hb1 (by omega) x4; replace x5 := kst hb1 (by omega) x5; replace x6 := kst hb1 (by omega) x6; replace x7 := kst hb1 (by omega) x7)
      | (go_at_call 25; (with_reducible refine (HRF.out _ (bt hw hb1)).mono ?_); rintro e w2 ⟨rfl, hb2⟩))
    go_ret
    exact ⟨rfl, bt (bt hw hb1) hb2⟩
  have hl := ho.2.2.2.1
  have h := gmt.wrap_mod sl l (by omega)
  exact cells_main ((IntKind.u64.wrap sl).tmod l).toNat n z d s l a sl r w hc ho hx hn hr (by omega) (by omega)
end Go.Proofs.Ytplhdnhigboeaaa.lrc
