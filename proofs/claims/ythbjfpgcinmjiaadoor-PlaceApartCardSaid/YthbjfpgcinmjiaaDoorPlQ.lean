/-
  The law PlaceApart: no two blocks of a zone at one place. Conditions: 'ValidOk', 'CloneOk', 'Tabs'.
-/
import Derived.Test.YthbjfpgcinmjiaaDoorPlP
namespace Go.Proofs.YthbjfpgcinmjiaaDoor.plc
open Go.RowKit Go.Lib
open Go.Proofs.YthbjfpgcinmjiaaDoor.gmt (Ok five_new slot_at rslot_at w6 tab bump make_ints icells icells_list icells_size ints_tab_length tab_set)
open Go.Proofs.YthbjfpgcinmjiaaDoor.anc
open Go.Proofs.YthbjfpgcinmjiaaDoor.lbl (ValidOk CloneOk Tabs lab_len labE)

set_option maxRecDepth 100000 in
set_option maxHeartbeats 8000000 in
theorem pa_long (zn dn sn : Int) (A : Option Addr) (n lc : Nat) (w : World) (hn : 40 < n) :
    Calls Tryd.prog 4 #[.int .i64 zn, .int .i64 dn, .int .i64 sn, .slice A n lc] w fun e w' => e = .returned (.bool true) ∧ Below w.heap.size w w' := by
  have hn1 : (40 : Int) < (n : Int) := by omega
  go_enter Tryd.func4, Tryd.ntmps4
  go_wp2
  go_ret
  exact ⟨rfl, Below.refl _ _⟩
theorem had_new (Z : Nat) (w : World) (hZ : Z ≤ 1048576) : OwnV (w.alloc (.cells (icells Z) 3)) w.heap.size 3 (.slice (some ⟨w.heap.size, 0, none⟩) Z Z) (ints (tab Z fun _ => 0)) := by
  unfold OwnV
  rw [ints_tab_length, ← icells_list]
  exact World.ownsRow_lit w (icells Z) Z (Nat.le_refl _) (by unfold maxLen; omega) (by rw [icells_size]; omega)
set_option maxRecDepth 100000 in
set_option maxHeartbeats 8000000 in
theorem pa_go (hV : ValidOk) (hC : CloneOk) (zn dn sn : Int) (A : Option Addr) (n lc : Nat) (f : Nat → Int × Int × Int) (w : World) (hT : Tabs w) (hn : n ≤ 40) (hc : n ≤ lc) (hA : Tris w w.heap.size A n f) :
    Calls Tryd.prog 4 #[.int .i64 zn, .int .i64 dn, .int .i64 sn, .slice A n lc] w fun e w' => e = .returned (.bool true) ∧ Below w.heap.size w w' := by
  have hn1 : (n : Int) ≤ 40 := by omega
  have HT := Lib.hid hT
  have HA := Lib.hid hA
  have HW := Lib.hid (show ∀ W, Below w.heap.size w W → Calls Tryd.prog 15 #[] W fun e w' => e = .returned (.bool true) ∧ Below W.heap.size W w' from fun W hW => wk_place hV hC W (tn hT hW))
  clear hT hA
  go_enter Tryd.func4, Tryd.ntmps4
  go_upto_region 4 with (go_at_call 20; (with_reducible refine (gmt.some_any zn dn sn 0 0 _).mono ?_); rintro e w1 ⟨⟨z, d, s, l, a, ho, rfl⟩, hb1⟩)
  obtain ⟨o1, o2, o3, -⟩ := id ho
  obtain ⟨Z, rfl⟩ : ∃ Z : Nat, z = Z := ⟨z.toNat, by omega⟩
  obtain ⟨D, rfl⟩ : ∃ D : Nat, d = D := ⟨d.toNat, by omega⟩
  have hx1 := bl w1 (.cells #[.int .i64 Z, .int .i64 D, .int .i64 s, .int .i64 l, .int .i64 a] 23)
  have GG := g5_new w1 Z D s l a
  have B1 := bt hb1 hx1
  have hz1 := hb1.size
  obtain ⟨gG, hgG⟩ : ∃ g, g = w1.heap.size := ⟨_, rfl⟩
  rw [← hgG] at GG ⊢
  have lG : gG < (w1.alloc (.cells #[.int .i64 Z, .int .i64 D, .int .i64 s, .int .i64 l, .int .i64 a] 23)).heap.size := by rw [hgG]; simp
  have lw : w.heap.size ≤ gG := by omega
  clear hb1 hx1 hgG hz1
  generalize w1.alloc (.cells #[.int .i64 Z, .int .i64 D, .int .i64 s, .int .i64 l, .int .i64 a] 23) = w2 at *
  obtain ⟨g0, g1, g2, g3, g4⟩ := id GG
  go_upto_region 5 with (go_at_call 21; (with_reducible refine (rfirst_any Z D s l a ⟨#[]⟩ _ ho).mono ?_); rintro e w3 ⟨⟨x, hex, hxd, hxo⟩, hb3⟩; rw [AV.v] at hex; subst hex)
  have hx3 := bl w3 (.cells #[.int .i64 x.gen, .int .i64 x.ep, .int .i64 x.pos, .int .i64 x.seq, .int .i64 x.last, .string x.lab, .slice x.HA x.hs.length x.hc] 26)
  have PA := sev_new w3 (.int .i64 x.gen) (.int .i64 x.ep) (.int .i64 x.pos) (.int .i64 x.seq) (.int .i64 x.last) (.string x.lab) (.slice x.HA x.hs.length x.hc) 26
  have XI := AV.Own.inn hxo
  have hz3 := hb3.size
  replace GG := (GG.keep hb3 lG).keep hx3 (by omega)
  replace B1 := bt (bt B1 hb3) hx3
  obtain ⟨gA, hgA⟩ : ∃ g, g = w3.heap.size := ⟨_, rfl⟩
  have XI4 : x.In (w3.alloc (.cells #[.int .i64 x.gen, .int .i64 x.ep, .int .i64 x.pos, .int .i64 x.seq, .int .i64 x.last, .string x.lab, .slice x.HA x.hs.length x.hc] 26)) gA := by rw [hgA]; exact XI.below hx3
  rw [← hgA] at PA ⊢
  have lA : gA < (w3.alloc (.cells #[.int .i64 x.gen, .int .i64 x.ep, .int .i64 x.pos, .int .i64 x.seq, .int .i64 x.last, .string x.lab, .slice x.HA x.hs.length x.hc] 26)).heap.size := by rw [hgA]; simp
  have kGA : gG < gA := by omega
  have HGD := Lib.hid (show anc.Good Z D s l x.d from by rw [hxd]; exact first_good ho lab_w)
  have HHD := Lib.hid (show Had D x.d (fun _ => 0) from by rw [hxd]; exact had_first)
  clear hb3 hx3 hgA hxo hxd XI hz3 lG g0 g1 g2 g3 g4
  generalize w3.alloc (.cells #[.int .i64 x.gen, .int .i64 x.ep, .int .i64 x.pos, .int .i64 x.seq, .int .i64 x.last, .string x.lab, .slice x.HA x.hs.length x.hc] 26) = w4 at *
  obtain ⟨g0, g1, g2, g3, g4⟩ := id GG
  have hmk := make_ints Z (by omega) w4
  go_upto_region 6 with fail
  clear hmk
  have hx5 := bl w4 (.cells (icells Z) 3)
  have HDO := had_new Z w4 (by omega)
  replace GG := GG.keep hx5 (by omega)
  replace PA := PA.keep hx5 lA
  replace B1 := bt B1 hx5
  have l5 : w4.heap.size < (w4.alloc (.cells (icells Z) 3)).heap.size := by simp
  have XI5 := XI4.below (hx5.mono (show gA ≤ w4.heap.size by omega))
  obtain ⟨gH, hgH⟩ : ∃ g, g = w4.heap.size := ⟨_, rfl⟩
  rw [← hgH] at HDO l5 lA ⊢
  have HOF := Lib.hid (off_old (gA := gA) (gH := gH) XI5 (Nat.le_refl _) (by omega) (by omega))
  clear hx5 hgH XI4 XI5 g0 g1 g2 g3 g4
  generalize w4.alloc (.cells (icells Z) 3) = w5 at *
  go_upto_region 7 with fail
  go_loopw [12] (fun i W => ∃ (k : Nat) (X : AV) (hd : Nat → Int), k ≤ n ∧ i = .int .i64 k ∧ Sev W gA (.int .i64 X.gen) (.int .i64 X.ep) (.int .i64 X.pos) (.int .i64 X.seq) (.int .i64 X.last) (.string X.lab) (.slice X.HA X.hs.length X.hc) ∧ Hid (Off W gA gH X) ∧ Hid (anc.Good Z D s l X.d) ∧ Hid (Had D X.d hd) ∧ OwnV W gH 3 (.slice (some ⟨gH, 0, none⟩) Z Z) (ints (tab Z hd)) ∧ G5 W gG Z D s l a ∧ Below w.heap.size w W ∧ gH < W.heap.size) (fun i _ => n - (RowKit.intOf i).toNat)
  case atStart => exact ⟨0, x, _, by omega, rfl, PA, HOF, HGD, HHD, HDO, GG, B1, l5⟩
  case round =>
    clear PA HOF HGD HHD HDO GG B1 l5 w5
    rename_i wr
    obtain ⟨k, X, hd, hk, rfl, PA, HOF, HGD, HHD, HDO, GG, hb0, l1⟩ := hrel
    by_cases hlt : k < n
    case neg =>
      obtain rfl : k = n := by omega
      have i1 : ¬ (k : Int) < (k : Int) := by omega
      have HW1 := HW.out wr hb0
      clear PA HOF HGD HHD HDO GG
      go_wp2_with (go_at_call 15; (with_reducible refine HW1.mono ?_); rintro e wz ⟨rfl, hbz⟩)
      go_ret
      exact ⟨rfl, bt hb0 hbz⟩
    have i1 : (k : Int) < (n : Int) := by omega
    have i2 : (0 : Int) ≤ (k : Int) := by omega
    have i3 : (n : Int) ≤ (lc : Int) := by omega
    obtain ⟨b0, off, hAe, hbb, t0, t1, t2⟩ := HA.out.below hb0 k hlt
    subst hAe
    obtain ⟨e0, he0⟩ : ∃ q, q = (f k).1 := ⟨_, rfl⟩
    obtain ⟨e1, he1⟩ : ∃ q, q = (f k).2.1 := ⟨_, rfl⟩
    obtain ⟨e2, he2⟩ : ∃ q, q = (f k).2.2 := ⟨_, rfl⟩
    rw [← he0] at t0
    rw [← he1] at t1
    rw [← he2] at t2
    clear he0 he1 he2
    have m1 := gmt.wrap_mod e0 (Z : Int) (by omega)
    have m3 := gmt.wrap_mod e1 ((D : Int) + 1) (by omega)
    obtain ⟨J, hJ⟩ : ∃ J : Nat, (IntKind.u64.wrap e0).tmod (Z : Int) = (J : Int) := ⟨_, (Int.toNat_of_nonneg m1.1).symm⟩
    obtain ⟨P1, hP⟩ : ∃ J : Nat, (IntKind.u64.wrap e1).tmod ((D : Int) + 1) = (J : Int) := ⟨_, (Int.toNat_of_nonneg m3.1).symm⟩
    have hJz : (J : Int) < Z := by omega
    have hPd : (P1 : Int) < (D : Int) + 1 := by omega
    have n5 : IntKind.u64.wrap (Z : Int) = Z := IntWalk.u64_in _ (by omega)
    have n6 : IntKind.u64.wrap ((D : Int) + 1) = (D : Int) + 1 := IntWalk.u64_in _ (by omega)
    have n7 : IntKind.i64.wrap ((D : Int) + 1) = (D : Int) + 1 := w6 _ (by omega) (by omega)
    have n8 : IntKind.i64.wrap (J : Int) = J := w6 _ (by omega) (by omega)
    have n10 : IntKind.i64.wrap (P1 : Int) = P1 := w6 _ (by omega) (by omega)
    have n12 : IntKind.i64.wrap ((P1 : Int) - 1) = (P1 : Int) - 1 := w6 _ (by omega) (by omega)
    have j1 : ¬ (Z : Int) = 0 := by omega
    have j2 : ¬ (D : Int) + 1 = 0 := by omega
    have j3 : ((Z : Int) == 0) = false := beq_eq_false_iff_ne.2 j1
    have j4 : ((D : Int) + 1 == 0) = false := beq_eq_false_iff_ne.2 j2
    have hHO := Lib.hid ho
    clear m1 m3 ho
    obtain ⟨g0, g1, g2, g3, g4⟩ := id GG
    go_wp2_with fail
    go_quiet (fail)
    have hbN := below_dn (Below.refl wr.heap.size wr) nq
    replace GG := GG.keep hbN (by omega)
    replace PA := PA.keep hbN (by omega)
    replace HOF := Lib.hid (HOF.out.below hbN)
    replace HDO := HDO.below hbN
    replace t1 := kst hbN (by omega) t1
    replace t2 := kst hbN (by omega) t2
    replace hb0 := bt hb0 hbN
    replace l1 := Nat.lt_of_lt_of_le l1 hbN.size
    have hbb2 := Nat.lt_of_lt_of_le hbb hb0.size
    clear hbN g0 g1 g2 g3 g4 t0
    generalize wr.drewN nq = wc at *
    obtain ⟨g0, g1, g2, g3, g4⟩ := id GG
    go_upto_region 10 with fail
    go_quiet (fail)
    have hbN := below_dn (Below.refl wc.heap.size wc) nq
    replace GG := GG.keep hbN (by omega)
    replace PA := PA.keep hbN (by omega)
    replace HOF := Lib.hid (HOF.out.below hbN)
    replace HDO := HDO.below hbN
    replace t2 := kst hbN hbb2 t2
    replace hb0 := bt hb0 hbN
    replace l1 := Nat.lt_of_lt_of_le l1 hbN.size
    clear hbN g0 g1 g2 g3 g4 t1 hbb2
    generalize wc.drewN nq = wd at *
    clear n5 n6 n7 n8 n10 n12 j1 j2 j3 j4 hJ hP
    go_upto_region 11 with fail
    obtain ⟨h, hh1⟩ := good_zone HGD.out hJz
    have hho := good_home HGD.out hh1
    have hv0 := HHD.out J h hh1
    obtain ⟨v, hv⟩ : ∃ v, v = hd J := ⟨_, rfl⟩
    rw [← hv] at hv0
    have hnx := hho.2.1
    have hJN : J < Z := by omega
    have HHH := Lib.hid hho
    have HV := Lib.hid hv
    have HV0 := Lib.hid hv0
    have cH0 := OwnV.cell HDO J (by rw [ints_tab_length]; exact hJN)
    rw [gmt.tab_get, ← hv] at cH0
    clear hv hv0
    have fH0 := OwnV.frozen (ints_tab_length Z hd) HDO J
    have k1 : (J : Int) < (Z : Int) := hJz
    have k2 : (0 : Int) ≤ (J : Int) := by omega
    obtain ⟨a0, a1, a2, a3, a4, a5, a6, -, -, -, -, -, -, -⟩ := id PA
    go_upto_region 12 with fail
    have hbD := bl wd (.cells #[.int .i64 X.gen, .int .i64 X.ep, .int .i64 X.pos, .int .i64 X.seq, .int .i64 X.last, .string X.lab, .slice X.HA X.hs.length X.hc] 26)
    have PB := sev_new wd (.int .i64 X.gen) (.int .i64 X.ep) (.int .i64 X.pos) (.int .i64 X.seq) (.int .i64 X.last) (.string X.lab) (.slice X.HA X.hs.length X.hc) 26
    have lE : wd.heap.size < (wd.alloc (.cells #[.int .i64 X.gen, .int .i64 X.ep, .int .i64 X.pos, .int .i64 X.seq, .int .i64 X.last, .string X.lab, .slice X.HA X.hs.length X.hc] 26)).heap.size := by simp
    have lHB := l1
    clear a0 a1 a2 a3 a4 a5 a6
    generalize wd.alloc (.cells #[.int .i64 X.gen, .int .i64 X.ep, .int .i64 X.pos, .int .i64 X.seq, .int .i64 X.last, .string X.lab, .slice X.HA X.hs.length X.hc] 26) = we at *
    have t2' := kst hbD (by omega) t2
    obtain ⟨g0, g1, g2, g3, g4⟩ := GG.keep hbD (by omega)
    obtain ⟨a0, a1, a2, a3, a4, a5, a6, -, -, -, -, -, -, -⟩ := PA.keep hbD (by omega)
    obtain ⟨p0, p1, p2, p3, p4, p5, p6, f0, f1, f2, f3, f4, f5, f6⟩ := id PB
    have hin := (HOF.out.below hbD).inn
    have hwh : IsWhat (D : Int) ((P1 : Int) - 1) := by unfold IsWhat; omega
    have hho := hHO.out
    clear t2
    by_cases hfu : h.nx = (D : Int) + 1 + s
    · by_cases hm : e2.tmod 3 = 0
      · have q0 : (e2.tmod 3 == 0) = true := beq_iff_eq.2 hm
        have hcall := Lib.hid (skip_g0 hV hC Z D s l a X we J h (tn HT.out (bt hb0 hbD)) hho hin HGD.out hh1 hfu)
        unfold AV.v at hcall
        clear hin hwh hho
        go_upto_region 15 with (go_at_call 11; (with_reducible refine hcall.out.mono ?_); rintro e wy ⟨⟨y, hey, hyd, hyo, hyp⟩, hb6⟩; rw [AV.v] at hey; subst hey; replace PB := PB.keep hb6 lE; clear p0 p1 p2 p3 p4 p5 p6 f0 f1 f2 f3 f4 f5 f6; obtain ⟨p0, p1, p2, p3, p4, p5, p6, f0, f1, f2, f3, f4, f5, f6⟩ := id PB)
        have hz6 := hb6.size
        have PB2 := sev_set PB (.int .i64 y.gen) (.int .i64 y.ep) (.int .i64 y.pos) (.int .i64 y.seq) (.int .i64 y.last) (.string y.lab) (.slice y.HA y.hs.length y.hc)
        have yo := OwnH.cell_set (OwnH.cell_set (OwnH.cell_set (OwnH.cell_set (OwnH.cell_set (OwnH.cell_set (OwnH.cell_set hyo (o := 0) lE (.int .i64 y.gen)) (o := 1) lE (.int .i64 y.ep)) (o := 2) lE (.int .i64 y.pos)) (o := 3) lE (.int .i64 y.seq)) (o := 4) lE (.int .i64 y.last)) (o := 5) lE (.string y.lab)) (o := 6) lE (.slice y.HA y.hs.length y.hc)
        have hbD2 := below_7 (v0 := .int .i64 y.gen) (v1 := .int .i64 y.ep) (v2 := .int .i64 y.pos) (v3 := .int .i64 y.seq) (v4 := .int .i64 y.last) (v5 := .string y.lab) (v6 := .slice y.HA y.hs.length y.hc) (g := wd.heap.size) (bt hbD hb6) (by omega)
        have l6 : wd.heap.size < ((((((((wy.setCell ⟨wd.heap.size, 0, none⟩ (.int .i64 y.gen)).setCell ⟨wd.heap.size, 1, none⟩ (.int .i64 y.ep)).setCell ⟨wd.heap.size, 2, none⟩ (.int .i64 y.pos)).setCell ⟨wd.heap.size, 3, none⟩ (.int .i64 y.seq)).setCell ⟨wd.heap.size, 4, none⟩ (.int .i64 y.last)).setCell ⟨wd.heap.size, 5, none⟩ (.string y.lab)).setCell ⟨wd.heap.size, 6, none⟩ (.slice y.HA y.hs.length y.hc))).heap.size := by simp; omega
        replace yo := Lib.hid yo
        obtain ⟨be, hbe⟩ : ∃ q, q = we.heap.size := ⟨_, rfl⟩
        rw [← hbe] at yo lE
        have HYD := Lib.hid hyd
        have HYP := Lib.hid hyp
        clear hcall p0 p1 p2 p3 p4 p5 p6 f0 f1 f2 f3 f4 f5 f6 g0 g1 g2 g3 g4 a0 a1 a2 a3 a4 a5 a6 PB hb6 hz6 hyo hbD hbe t2' hyd hyp
        generalize (((((((wy.setCell ⟨wd.heap.size, 0, none⟩ (.int .i64 y.gen)).setCell ⟨wd.heap.size, 1, none⟩ (.int .i64 y.ep)).setCell ⟨wd.heap.size, 2, none⟩ (.int .i64 y.pos)).setCell ⟨wd.heap.size, 3, none⟩ (.int .i64 y.seq)).setCell ⟨wd.heap.size, 4, none⟩ (.int .i64 y.last)).setCell ⟨wd.heap.size, 5, none⟩ (.string y.lab)).setCell ⟨wd.heap.size, 6, none⟩ (.slice y.HA y.hs.length y.hc)) = wf at *
        obtain ⟨g0, g1, g2, g3, g4⟩ := GG.keep hbD2 (by omega)
        have cH1 := kst hbD2 (by omega) cH0
        have fH1 := (hbD2.frozen (p := ⟨gH, J, none⟩) (by show gH < wd.heap.size; omega)).trans fH0
        have hvs : s ≤ v := by have := HV0.out; omega
        clear q0 hfu
        go_quiet (fail)
        have hbN := below_dn (Below.refl wf.heap.size wf) nq
        have hbZ := bt hbD2 hbN
        generalize wf.drewN nq = wz at *
        clear g0 g1 g2 g3 g4 cH1 fH1 yo HYP
        go_wp2_with fail
        go_roundw
        case rel => exact ⟨k + 1, X, hd, by omega, by go_num, PA.keep hbZ (by omega), Lib.hid (HOF.out.below hbZ), HGD, HHD, HDO.below hbZ, GG.keep hbZ (by omega), bt hb0 hbZ, Nat.lt_of_lt_of_le l1 hbZ.size⟩
        case measure => simp [RowKit.intOf]; omega
      · have q0 : (e2.tmod 3 == 0) = false := beq_eq_false_iff_ne.2 hm
        have hcall := Lib.hid (move_g0 hV hC Z D s l a X we J _ h (tn HT.out (bt hb0 hbD)) hho hin HGD.out hh1 hwh hfu)
        unfold AV.v at hcall
        clear hin hwh hho
        go_upto_region 15 with (go_at_call 10; (with_reducible refine hcall.out.mono ?_); rintro e wy ⟨⟨y, hey, hyd, hyo, hyp⟩, hb6⟩; rw [AV.v] at hey; subst hey; replace PB := PB.keep hb6 lE; clear p0 p1 p2 p3 p4 p5 p6 f0 f1 f2 f3 f4 f5 f6; obtain ⟨p0, p1, p2, p3, p4, p5, p6, f0, f1, f2, f3, f4, f5, f6⟩ := id PB)
        have hz6 := hb6.size
        have PB2 := sev_set PB (.int .i64 y.gen) (.int .i64 y.ep) (.int .i64 y.pos) (.int .i64 y.seq) (.int .i64 y.last) (.string y.lab) (.slice y.HA y.hs.length y.hc)
        have yo := OwnH.cell_set (OwnH.cell_set (OwnH.cell_set (OwnH.cell_set (OwnH.cell_set (OwnH.cell_set (OwnH.cell_set hyo (o := 0) lE (.int .i64 y.gen)) (o := 1) lE (.int .i64 y.ep)) (o := 2) lE (.int .i64 y.pos)) (o := 3) lE (.int .i64 y.seq)) (o := 4) lE (.int .i64 y.last)) (o := 5) lE (.string y.lab)) (o := 6) lE (.slice y.HA y.hs.length y.hc)
        have hbD2 := below_7 (v0 := .int .i64 y.gen) (v1 := .int .i64 y.ep) (v2 := .int .i64 y.pos) (v3 := .int .i64 y.seq) (v4 := .int .i64 y.last) (v5 := .string y.lab) (v6 := .slice y.HA y.hs.length y.hc) (g := wd.heap.size) (bt hbD hb6) (by omega)
        have l6 : wd.heap.size < ((((((((wy.setCell ⟨wd.heap.size, 0, none⟩ (.int .i64 y.gen)).setCell ⟨wd.heap.size, 1, none⟩ (.int .i64 y.ep)).setCell ⟨wd.heap.size, 2, none⟩ (.int .i64 y.pos)).setCell ⟨wd.heap.size, 3, none⟩ (.int .i64 y.seq)).setCell ⟨wd.heap.size, 4, none⟩ (.int .i64 y.last)).setCell ⟨wd.heap.size, 5, none⟩ (.string y.lab)).setCell ⟨wd.heap.size, 6, none⟩ (.slice y.HA y.hs.length y.hc))).heap.size := by simp; omega
        replace yo := Lib.hid yo
        obtain ⟨be, hbe⟩ : ∃ q, q = we.heap.size := ⟨_, rfl⟩
        rw [← hbe] at yo lE
        have HYD := Lib.hid hyd
        have HYP := Lib.hid hyp
        clear hcall p0 p1 p2 p3 p4 p5 p6 f0 f1 f2 f3 f4 f5 f6 g0 g1 g2 g3 g4 a0 a1 a2 a3 a4 a5 a6 PB hb6 hz6 hyo hbD hbe t2' hyd hyp
        generalize (((((((wy.setCell ⟨wd.heap.size, 0, none⟩ (.int .i64 y.gen)).setCell ⟨wd.heap.size, 1, none⟩ (.int .i64 y.ep)).setCell ⟨wd.heap.size, 2, none⟩ (.int .i64 y.pos)).setCell ⟨wd.heap.size, 3, none⟩ (.int .i64 y.seq)).setCell ⟨wd.heap.size, 4, none⟩ (.int .i64 y.last)).setCell ⟨wd.heap.size, 5, none⟩ (.string y.lab)).setCell ⟨wd.heap.size, 6, none⟩ (.slice y.HA y.hs.length y.hc)) = wf at *
        obtain ⟨g0, g1, g2, g3, g4⟩ := GG.keep hbD2 (by omega)
        have cH1 := kst hbD2 (by omega) cH0
        have fH1 := (hbD2.frozen (p := ⟨gH, J, none⟩) (by show gH < wd.heap.size; omega)).trans fH0
        have hvs : s ≤ v := by have := HV0.out; omega
        clear q0 hfu
        go_quiet (fail)
        have hbN := below_dn (Below.refl wf.heap.size wf) nq
        have hbZ := bt hbD2 hbN
        generalize wf.drewN nq = wz at *
        clear g0 g1 g2 g3 g4 cH1 fH1 yo HYP
        go_wp2_with fail
        go_roundw
        case rel => exact ⟨k + 1, X, hd, by omega, by go_num, PA.keep hbZ (by omega), Lib.hid (HOF.out.below hbZ), HGD, HHD, HDO.below hbZ, GG.keep hbZ (by omega), bt hb0 hbZ, Nat.lt_of_lt_of_le l1 hbZ.size⟩
        case measure => simp [RowKit.intOf]; omega
    · replace hfu : h.nx < (D : Int) + 1 + s := by omega
      by_cases hm : e2.tmod 3 = 0
      · have q0 : (e2.tmod 3 == 0) = true := beq_iff_eq.2 hm
        have hcall := Lib.hid (skip_g hV hC Z D s l a X we J h (tn HT.out (bt hb0 hbD)) hho hin HGD.out hh1 hfu)
        unfold AV.v at hcall
        clear hin hwh hho
        go_upto_region 15 with (go_at_call 11; (with_reducible refine hcall.out.mono ?_); rintro e wy ⟨⟨y, hey, hyd, hyo, hyp⟩, hb6⟩; rw [AV.v] at hey; subst hey; replace PB := PB.keep hb6 lE; clear p0 p1 p2 p3 p4 p5 p6 f0 f1 f2 f3 f4 f5 f6; obtain ⟨p0, p1, p2, p3, p4, p5, p6, f0, f1, f2, f3, f4, f5, f6⟩ := id PB)
        have hz6 := hb6.size
        have PB2 := sev_set PB (.int .i64 y.gen) (.int .i64 y.ep) (.int .i64 y.pos) (.int .i64 y.seq) (.int .i64 y.last) (.string y.lab) (.slice y.HA y.hs.length y.hc)
        have yo := OwnH.cell_set (OwnH.cell_set (OwnH.cell_set (OwnH.cell_set (OwnH.cell_set (OwnH.cell_set (OwnH.cell_set hyo (o := 0) lE (.int .i64 y.gen)) (o := 1) lE (.int .i64 y.ep)) (o := 2) lE (.int .i64 y.pos)) (o := 3) lE (.int .i64 y.seq)) (o := 4) lE (.int .i64 y.last)) (o := 5) lE (.string y.lab)) (o := 6) lE (.slice y.HA y.hs.length y.hc)
        have hbD2 := below_7 (v0 := .int .i64 y.gen) (v1 := .int .i64 y.ep) (v2 := .int .i64 y.pos) (v3 := .int .i64 y.seq) (v4 := .int .i64 y.last) (v5 := .string y.lab) (v6 := .slice y.HA y.hs.length y.hc) (g := wd.heap.size) (bt hbD hb6) (by omega)
        have l6 : wd.heap.size < ((((((((wy.setCell ⟨wd.heap.size, 0, none⟩ (.int .i64 y.gen)).setCell ⟨wd.heap.size, 1, none⟩ (.int .i64 y.ep)).setCell ⟨wd.heap.size, 2, none⟩ (.int .i64 y.pos)).setCell ⟨wd.heap.size, 3, none⟩ (.int .i64 y.seq)).setCell ⟨wd.heap.size, 4, none⟩ (.int .i64 y.last)).setCell ⟨wd.heap.size, 5, none⟩ (.string y.lab)).setCell ⟨wd.heap.size, 6, none⟩ (.slice y.HA y.hs.length y.hc))).heap.size := by simp; omega
        replace yo := Lib.hid yo
        obtain ⟨be, hbe⟩ : ∃ q, q = we.heap.size := ⟨_, rfl⟩
        rw [← hbe] at yo lE
        have HYD := Lib.hid hyd
        have HYP := Lib.hid hyp
        clear hcall p0 p1 p2 p3 p4 p5 p6 f0 f1 f2 f3 f4 f5 f6 g0 g1 g2 g3 g4 a0 a1 a2 a3 a4 a5 a6 PB hb6 hz6 hyo hbD hbe t2' hyd hyp
        generalize (((((((wy.setCell ⟨wd.heap.size, 0, none⟩ (.int .i64 y.gen)).setCell ⟨wd.heap.size, 1, none⟩ (.int .i64 y.ep)).setCell ⟨wd.heap.size, 2, none⟩ (.int .i64 y.pos)).setCell ⟨wd.heap.size, 3, none⟩ (.int .i64 y.seq)).setCell ⟨wd.heap.size, 4, none⟩ (.int .i64 y.last)).setCell ⟨wd.heap.size, 5, none⟩ (.string y.lab)).setCell ⟨wd.heap.size, 6, none⟩ (.slice y.HA y.hs.length y.hc)) = wf at *
        obtain ⟨g0, g1, g2, g3, g4⟩ := GG.keep hbD2 (by omega)
        have cH1 := kst hbD2 (by omega) cH0
        have fH1 := (hbD2.frozen (p := ⟨gH, J, none⟩) (by show gH < wd.heap.size; omega)).trans fH0
        clear q0
        obtain ⟨h2, hh2⟩ : ∃ q, q = ({ h with nx := h.nx + 1 } : Hom) := ⟨_, rfl⟩
        have HGY := Lib.hid (show anc.Good Z D s l y.d from by rw [HYD.out]; exact good_skip HGD.out hh1 hfu)
        have HYJ := Lib.hid (show y.d.hs[J]? = some h2 from by rw [HYD.out, hh2]; exact skip_at hh1)
        have HN2 : Hid (h2.nx = h.nx + 1) := Lib.hid (by rw [hh2])
        have HHN := Lib.hid (show Had D y.d (bump hd J) from had_step HHD.out hh1 HYJ.out HN2.out (fun q hq => by rw [HYD.out]; exact skip_other hq))
        have hvl : v < s := by have := HV0.out; omega
        have hvb : 0 ≤ v ∧ v ≤ 2 := by have := HV0.out; omega
        have hfu2 := Lib.hid hfu
        clear hh2 hfu HYD
        go_quiet (fail)
        have hbN := below_dn (Below.refl wf.heap.size wf) nq
        generalize hwq : wf.drewN nq = wq at *
        replace PB2 := PB2.keep hbN l6
        replace yo := Lib.hid (OwnH.below yo.out hbN)
        replace cH1 := kst hbN (by omega) cH1
        replace fH1 := (hbN.frozen (p := ⟨gH, J, none⟩) (by show gH < wf.heap.size; omega)).trans fH1
        replace hbD2 := bt hbD2 hbN
        replace l6 := Nat.lt_of_lt_of_le l6 hbN.size
        clear hbN hwq g0 g1 g2 g3 g4
        have vw : IntKind.i64.wrap (v + 1) = v + 1 := w6 _ (by omega) (by omega)
        go_upto_region 19 with fail
        have hbS : Below gH wq (wq.setCell ⟨gH, J, none⟩ (.int .i64 (v + 1))) := (Below.refl gH wq).setCell (Nat.le_refl gH) _
        have HDO3 := (OwnV.store (ints_tab_length Z hd) (HDO.below hbD2) J (.int .i64 (v + 1))).1
        rw [HV.out, tab_set] at HDO3
        have GG3 := (GG.keep hbD2 (by omega)).keep hbS (by omega)
        have PA3 := (PA.keep hbD2 (by omega)).keep hbS (by omega)
        have PB3 := PB2.apart (show wd.heap.size ≠ gH by omega) (o := J) (.int .i64 (v + 1))
        have yo3 := Lib.hid (OwnH.cell_set yo.out (show gH < be by omega) (o := J) (.int .i64 (v + 1)))
        have hb3 := (bt hb0 hbD2).setCell (p := ⟨gH, J, none⟩) (by show w.heap.size ≤ gH; omega) (.int .i64 (v + 1))
        have l3 : wd.heap.size < (wq.setCell ⟨gH, J, none⟩ (.int .i64 (v + 1))).heap.size := by simp; omega
        rw [← HV.out] at HDO3
        have HDO3' := HDO3
        clear cH1 fH1 vw hbS yo PB2 hbD2 l6 PA GG HDO HOF cH0 fH0 HDO3
        generalize wq.setCell ⟨gH, J, none⟩ (.int .i64 (v + 1)) = ws at *
        have cH2 := OwnV.cell HDO3' J (by rw [ints_tab_length]; exact hJN)
        rw [gmt.tab_get, show bump hd J J = v + 1 by unfold gmt.bump; rw [if_pos rfl, ← HV.out]] at cH2
        obtain ⟨g0, g1, g2, g3, g4⟩ := id GG3
        obtain ⟨p0, p1, p2, p3, p4, p5, p6, -, -, -, -, -, -, -⟩ := id PB3
        have HSP := Lib.hid (show Calls Tryd.prog 9 #[.agg #[.int .i64 Z, .int .i64 D, .int .i64 s, .int .i64 l, .int .i64 a], y.v, .int .i64 J] ws fun e w' => e = .returned (.tuple #[.int .i64 (s - (v + 1)), .int .i64 0]) ∧ Below ws.heap.size ws w' from by
          have h9 := spares_g hV Z D s l a y ws J h2 (tn HT.out hb3) hHO.out (AV.Own.inn yo3.out) HGY.out HYJ.out
          rwa [show (D : Int) + 1 + s - h2.nx = s - (v + 1) by have := HN2.out; have := HV0.out; omega] at h9)
        unfold AV.v at HSP
        go_upto_region 20 with (go_at_call 9; (with_reducible refine HSP.out.mono ?_); rintro e w8 ⟨rfl, hb8⟩)
        replace GG3 := GG3.keep hb8 (by omega)
        replace PA3 := PA3.keep hb8 (by omega)
        replace PB3 := PB3.keep hb8 l3
        replace HDO3' := HDO3'.below hb8
        replace yo3 := Lib.hid (OwnH.below yo3.out hb8)
        replace cH2 := kst hb8 (by omega) cH2
        replace hb3 := bt hb3 hb8
        replace l3 := Nat.lt_of_lt_of_le l3 hb8.size
        clear HSP hb8 g0 g1 g2 g3 g4 p0 p1 p2 p3 p4 p5 p6
        obtain ⟨g0, g1, g2, g3, g4⟩ := id GG3
        have q1 : ((s - (v + 1)) != (s - (v + 1))) = false := by simp
        have q2 : IntKind.i64.wrap (s - (v + 1)) = s - (v + 1) := w6 _ (by omega) (by omega)
        go_quiet (fail)
        have hbN := below_dn (Below.refl w8.heap.size w8) nq
        replace GG3 := GG3.keep hbN (by omega)
        replace PA3 := PA3.keep hbN (by omega)
        replace PB3 := PB3.keep hbN l3
        replace HDO3' := HDO3'.below hbN
        replace yo3 := Lib.hid (OwnH.below yo3.out hbN)
        replace hb3 := bt hb3 hbN
        replace l3 := Nat.lt_of_lt_of_le l3 hbN.size
        clear hbN q1 q2 g0 g1 g2 g3 g4 cH2
        generalize w8.drewN nq = w9 at *
        obtain ⟨p0, p1, p2, p3, p4, p5, p6, -, -, -, -, -, -, -⟩ := id PB3
        obtain ⟨a0, a1, a2, a3, a4, a5, a6, f0, f1, f2, f3, f4, f5, f6⟩ := id PA3
        go_upto_region 23 with fail
        have PA4 := sev_set PA3 (.int .i64 y.gen) (.int .i64 y.ep) (.int .i64 y.pos) (.int .i64 y.seq) (.int .i64 y.last) (.string y.lab) (.slice y.HA y.hs.length y.hc)
        have GG4 := g5_set7 GG3 (show gG ≠ gA by omega) (.int .i64 y.gen) (.int .i64 y.ep) (.int .i64 y.pos) (.int .i64 y.seq) (.int .i64 y.last) (.string y.lab) (.slice y.HA y.hs.length y.hc)
        have HDO4 := ownV_set7 HDO3' (show (Value.slice (some ⟨gH, 0, none⟩) Z Z).ownBlock ≠ some gA by simp [Value.ownBlock]; omega) (.int .i64 y.gen) (.int .i64 y.ep) (.int .i64 y.pos) (.int .i64 y.seq) (.int .i64 y.last) (.string y.lab) (.slice y.HA y.hs.length y.hc)
        have OF4 := Lib.hid ((off_own yo3.out (show gA < be by omega) (show gH < be by omega)).set7 (.inl rfl) (.int .i64 y.gen) (.int .i64 y.ep) (.int .i64 y.pos) (.int .i64 y.seq) (.int .i64 y.last) (.string y.lab) (.slice y.HA y.hs.length y.hc))
        have hb4 := below_7 (v0 := .int .i64 y.gen) (v1 := .int .i64 y.ep) (v2 := .int .i64 y.pos) (v3 := .int .i64 y.seq) (v4 := .int .i64 y.last) (v5 := .string y.lab) (v6 := .slice y.HA y.hs.length y.hc) (g := gA) hb3 (by omega)
        have l4 : gH < ((((((((w9.setCell ⟨gA, 0, none⟩ (.int .i64 y.gen)).setCell ⟨gA, 1, none⟩ (.int .i64 y.ep)).setCell ⟨gA, 2, none⟩ (.int .i64 y.pos)).setCell ⟨gA, 3, none⟩ (.int .i64 y.seq)).setCell ⟨gA, 4, none⟩ (.int .i64 y.last)).setCell ⟨gA, 5, none⟩ (.string y.lab)).setCell ⟨gA, 6, none⟩ (.slice y.HA y.hs.length y.hc))).heap.size := by simp; omega
        clear p0 p1 p2 p3 p4 p5 p6 a0 a1 a2 a3 a4 a5 a6 f0 f1 f2 f3 f4 f5 f6 PA3 PB3 GG3 HDO3' yo3 hb3 l3
        generalize (((((((w9.setCell ⟨gA, 0, none⟩ (.int .i64 y.gen)).setCell ⟨gA, 1, none⟩ (.int .i64 y.ep)).setCell ⟨gA, 2, none⟩ (.int .i64 y.pos)).setCell ⟨gA, 3, none⟩ (.int .i64 y.seq)).setCell ⟨gA, 4, none⟩ (.int .i64 y.last)).setCell ⟨gA, 5, none⟩ (.string y.lab)).setCell ⟨gA, 6, none⟩ (.slice y.HA y.hs.length y.hc)) = wg at *
        go_upto_region 25 with fail
        obtain ⟨LO, hLO⟩ : ∃ q, q = a + 2 * l + 2 * (Z : Int) + (J : Int) * ((D : Int) + 1 + s) + 0 := ⟨_, rfl⟩
        have hLB : 0 ≤ LO ∧ LO ≤ 1000 := by
          have h9 := gmt.mul_le (i := (J : Int)) (n := 3) (P := 7) (by omega) (by omega) (by omega) (gmt.per_le hHO.out).2
          obtain ⟨-, -, -, o4, o5⟩ := hHO.out
          omega
        have HSL := Lib.hid (show ∀ W, Calls Tryd.prog 22 #[.agg #[.int .i64 Z, .int .i64 D, .int .i64 s, .int .i64 l, .int .i64 a], .int .i64 J, .int .i64 0] W fun e w' => e = .returned (.tuple #[.int .i64 LO, .int .i64 0]) ∧ Below W.heap.size W w' from fun W => by rw [hLO]; exact slot_at Z D s l a J 0 _ 0 W hHO.out (told1 ⟨⟨k2, k1⟩, by omega, by omega⟩))
        have HHY := Lib.hid (good_home HGY.out HYJ.out)
        have HLO := Lib.hid hLO
        clear hLO
        go_loopw [19, 20] (fun mv i W => ∃ (t : Nat) (AM : Option Addr) (cm : Nat), t ≤ D + 1 ∧ i = .int .i64 ((t : Int) - 1) ∧ mv = .slice AM t cm ∧ OwnV W wg.heap.size 3 (.slice AM t cm) (ints (mps Z D s l a J h2 D t)) ∧ Below wg.heap.size wg W) (fun _ i _ => D + 1 - (RowKit.intOf i + 1).toNat)
        case atStart => exact ⟨0, none, 0, by omega, rfl, rfl, ownV_nil _ _ _, Below.refl _ _⟩
        case round =>
          obtain ⟨wr2, rfl⟩ : ∃ q, q = wr := ⟨wr, rfl⟩
          obtain ⟨t, AM, cm, ht, rfl, rfl, hown, hbg⟩ := hrel
          by_cases htD : t ≤ D
          case neg =>
            obtain rfl : t = D + 1 := by omega
            have i9 : ¬ (((D + 1 : Nat) : Int) - 1) < (D : Int) := by omega
            obtain ⟨g0, g1, g2, g3, g4⟩ := GG4.keep hbg (by omega)
            go_wp2_with fail
            go_roundw
            case rel => exact ⟨k + 1, y, _, by omega, by go_num, PA4.keep hbg (by omega), Lib.hid (OF4.out.below hbg), HGY, HHN, HDO4.below hbg, GG4.keep hbg (by omega), bt hb4 hbg, Nat.lt_of_lt_of_le l4 hbg.size⟩
            case measure => simp [RowKit.intOf]; omega
          have i9 : ((t : Int) - 1) < (D : Int) := by omega
          obtain ⟨i, p, hi, hp, hm, hp0, hp1, -⟩ := mp_at (z := (Z : Int)) (l := l) (a := a) (J := (J : Int)) HHY.out rfl htD
          obtain ⟨X1, hX1⟩ : ∃ q, q = mp Z D s l a J h2 D t := ⟨_, rfl⟩
          have hXL : LO ≤ X1 ∧ X1 ≤ LO + D + s := by rw [hX1, hm, HLO.out]; unfold slotA; omega
          have hwt : IsWhat (D : Int) ((t : Int) - 1) := by unfold IsWhat; omega
          have HAY := Lib.hid (show Calls Tryd.prog 8 #[.agg #[.int .i64 Z, .int .i64 D, .int .i64 s, .int .i64 l, .int .i64 a], y.v, .int .i64 J, .int .i64 ((t : Int) - 1)] wr2 fun e w' => e = .returned (.tuple #[.int .i64 X1, .int .i64 0]) ∧ Below wr2.heap.size wr2 w' from by
            rw [hX1, hm]
            exact addr_g hV Z D s l a y wr2 J i _ p h2 (tn HT.out (bt hb4 hbg)) hHO.out (OF4.out.below hbg).inn HGY.out HYJ.out hwt hi hp)
          unfold AV.v at HAY
          have HNE := Lib.hid (show ∀ q : Nat, q < t → mp Z D s l a J h2 D q ≠ X1 from fun q hq => by rw [hX1]; exact mp_ne HHY.out rfl htD hq)
          have GG5 := GG4.keep hbg (by omega)
          obtain ⟨g0, g1, g2, g3, g4⟩ := id GG5
          obtain ⟨a0, a1, a2, a3, a4, a5, a6, -, -, -, -, -, -, -⟩ := PA4.keep hbg (by omega)
          have lr2 := Nat.lt_of_lt_of_le l4 hbg.size
          have HX1 := Lib.hid hX1
          clear hi hp hm hp0 hp1 hwt hX1
          go_upto_region 28 with (go_at_call 8; (with_reducible refine HAY.out.mono ?_); rintro e wb1 ⟨rfl, hq1⟩)
          replace GG5 := GG5.keep hq1 (by omega)
          replace hown := hown.below hq1
          replace hbg := bt hbg hq1
          replace lr2 := Nat.lt_of_lt_of_le lr2 hq1.size
          clear hq1 HAY g0 g1 g2 g3 g4 a0 a1 a2 a3 a4 a5 a6
          obtain ⟨g0, g1, g2, g3, g4⟩ := id GG5
          go_upto_region 29 with (go_at_call 22; (with_reducible refine (HSL.out _).mono ?_); rintro e wb2 ⟨rfl, hq1⟩)
          replace GG5 := GG5.keep hq1 (by omega)
          replace hown := hown.below hq1
          replace hbg := bt hbg hq1
          clear hq1 g0 g1 g2 g3 g4 lr2
          obtain ⟨g0, g1, g2, g3, g4⟩ := id GG5
          have d1 : decide (X1 < LO) = false := decide_eq_false (by omega)
          have d2 : decide (LO + (D : Int) + s < X1) = false := decide_eq_false (by omega)
          have d3 : IntKind.i64.wrap (LO + (D : Int)) = LO + D := w6 _ (by omega) (by omega)
          have d4 : IntKind.i64.wrap (LO + (D : Int) + s) = LO + D + s := w6 _ (by omega) (by omega)
          go_upto_region 32 with fail
          clear d1 d2 d3 d4 g0 g1 g2 g3 g4 GG5
          go_loop [25] (fun i => ∃ q : Nat, q ≤ t ∧ i = .int .i64 q) (fun i => t - (RowKit.intOf i).toNat)
          case atStart => exact ⟨0, by omega, rfl⟩
          case round =>
            obtain ⟨q, hq, rfl⟩ := hrel
            by_cases hqt : q < t
            · have r1 : (q : Int) < (t : Int) := by omega
              have r2 : (0 : Int) ≤ (q : Int) := by omega
              obtain ⟨gm, cm', hvm, hcm, -, -, -⟩ := hown.at (by rw [ints_length, mps_length]; omega)
              simp only [Value.slice.injEq] at hvm
              obtain ⟨rfl, -, rfl⟩ := hvm
              rw [ints_length, mps_length] at hcm
              have cq := OwnV.cell hown q (by rw [ints_length, mps_length]; exact hqt)
              rw [mps_get] at cq
              have r3 : (t : Int) ≤ (cm : Int) := by omega
              have r4 : (mp Z D s l a J h2 D q == X1) = false := beq_eq_false_iff_ne.2 (HNE.out q hqt)
              go_wp2_with fail
              go_round
              case rel => exact ⟨q + 1, by omega, by go_num⟩
              case measure => simp [RowKit.intOf]; omega
            · obtain rfl : q = t := by omega
              have r1 : ¬ (q : Int) < (q : Int) := by omega
              have hle : (ints (mps Z D s l a J h2 D q)).length = q := by rw [ints_length, mps_length]
              have HLE := Lib.hid hle
              clear hle
              go_wp2_with (first
                | (at_builtin
                   refine wpList_appV _ rfl (.tmp 186) (.tmp 188) _ _ rfl wg.heap.size 3 tvI (.slice AM q cm) (ints (mps Z D s l a J h2 D q)) rfl (hown.alloc _) _ [.int .i64 X1] rfl ((SlV.of_block (vs := [.int .i64 X1]) (heap_alloc_new _ _) rfl (Nat.lt_succ_self _)).src (ints_one [X1]) Tryd.underlying42 1) (by rw [HLE.out]; unfold maxLen; simp; omega) (by rw [HLE.out]; simp; omega) (by have := hbg.size; simp; omega) ?_
                   intro v2 w8' ho8 hg8 hat8
                   rw [HX1.out, mps_next] at ho8
                   obtain ⟨A2, d2, hv2, -, -, -, -⟩ := ho8.form
                   rw [ints_length, mps_length] at hv2
                   subst hv2))
              have hfin := (hbg.alloc hbg.size (.cells #[.int .i64 X1] 3)).grown hg8 (by have := hbg.size; simp; omega) (fun x hx => (World.ownsRow.lt hown x hx).1)
              go_roundw
              case rel => exact ⟨q + 1, A2, d2, by omega, by go_num, rfl, ho8, hfin⟩
              case measure => simp [RowKit.intOf]; omega
      · have q0 : (e2.tmod 3 == 0) = false := beq_eq_false_iff_ne.2 hm
        obtain ⟨i, hi, hil⟩ := at_in hho HGD.out hh1 hwh
        have hcall := Lib.hid (move_g hV hC Z D s l a X we J i _ h (tn HT.out (bt hb0 hbD)) hho hin HGD.out hh1 hwh hi hil hfu)
        unfold AV.v at hcall
        clear hin hwh hho
        go_upto_region 15 with (go_at_call 10; (with_reducible refine hcall.out.mono ?_); rintro e wy ⟨⟨y, hey, hyd, hyo, hyp⟩, hb6⟩; rw [AV.v] at hey; subst hey; replace PB := PB.keep hb6 lE; clear p0 p1 p2 p3 p4 p5 p6 f0 f1 f2 f3 f4 f5 f6; obtain ⟨p0, p1, p2, p3, p4, p5, p6, f0, f1, f2, f3, f4, f5, f6⟩ := id PB)
        have hz6 := hb6.size
        have PB2 := sev_set PB (.int .i64 y.gen) (.int .i64 y.ep) (.int .i64 y.pos) (.int .i64 y.seq) (.int .i64 y.last) (.string y.lab) (.slice y.HA y.hs.length y.hc)
        have yo := OwnH.cell_set (OwnH.cell_set (OwnH.cell_set (OwnH.cell_set (OwnH.cell_set (OwnH.cell_set (OwnH.cell_set hyo (o := 0) lE (.int .i64 y.gen)) (o := 1) lE (.int .i64 y.ep)) (o := 2) lE (.int .i64 y.pos)) (o := 3) lE (.int .i64 y.seq)) (o := 4) lE (.int .i64 y.last)) (o := 5) lE (.string y.lab)) (o := 6) lE (.slice y.HA y.hs.length y.hc)
        have hbD2 := below_7 (v0 := .int .i64 y.gen) (v1 := .int .i64 y.ep) (v2 := .int .i64 y.pos) (v3 := .int .i64 y.seq) (v4 := .int .i64 y.last) (v5 := .string y.lab) (v6 := .slice y.HA y.hs.length y.hc) (g := wd.heap.size) (bt hbD hb6) (by omega)
        have l6 : wd.heap.size < ((((((((wy.setCell ⟨wd.heap.size, 0, none⟩ (.int .i64 y.gen)).setCell ⟨wd.heap.size, 1, none⟩ (.int .i64 y.ep)).setCell ⟨wd.heap.size, 2, none⟩ (.int .i64 y.pos)).setCell ⟨wd.heap.size, 3, none⟩ (.int .i64 y.seq)).setCell ⟨wd.heap.size, 4, none⟩ (.int .i64 y.last)).setCell ⟨wd.heap.size, 5, none⟩ (.string y.lab)).setCell ⟨wd.heap.size, 6, none⟩ (.slice y.HA y.hs.length y.hc))).heap.size := by simp; omega
        replace yo := Lib.hid yo
        obtain ⟨be, hbe⟩ : ∃ q, q = we.heap.size := ⟨_, rfl⟩
        rw [← hbe] at yo lE
        have HYD := Lib.hid hyd
        have HYP := Lib.hid hyp
        clear hcall p0 p1 p2 p3 p4 p5 p6 f0 f1 f2 f3 f4 f5 f6 g0 g1 g2 g3 g4 a0 a1 a2 a3 a4 a5 a6 PB hb6 hz6 hyo hbD hbe t2' hyd hyp
        generalize (((((((wy.setCell ⟨wd.heap.size, 0, none⟩ (.int .i64 y.gen)).setCell ⟨wd.heap.size, 1, none⟩ (.int .i64 y.ep)).setCell ⟨wd.heap.size, 2, none⟩ (.int .i64 y.pos)).setCell ⟨wd.heap.size, 3, none⟩ (.int .i64 y.seq)).setCell ⟨wd.heap.size, 4, none⟩ (.int .i64 y.last)).setCell ⟨wd.heap.size, 5, none⟩ (.string y.lab)).setCell ⟨wd.heap.size, 6, none⟩ (.slice y.HA y.hs.length y.hc)) = wf at *
        obtain ⟨g0, g1, g2, g3, g4⟩ := GG.keep hbD2 (by omega)
        have cH1 := kst hbD2 (by omega) cH0
        have fH1 := (hbD2.frozen (p := ⟨gH, J, none⟩) (by show gH < wd.heap.size; omega)).trans fH0
        clear q0
        obtain ⟨h2, hh2⟩ : ∃ q, q = ({ h with ps := h.ps.set i h.nx, nx := h.nx + 1 } : Hom) := ⟨_, rfl⟩
        have HGY := Lib.hid (show anc.Good Z D s l y.d from by rw [HYD.out]; exact good_move HGD.out hh1 hfu)
        have HYJ := Lib.hid (show y.d.hs[J]? = some h2 from by rw [HYD.out, hh2]; exact move_at hh1)
        have HN2 : Hid (h2.nx = h.nx + 1) := Lib.hid (by rw [hh2])
        have HHN := Lib.hid (show Had D y.d (bump hd J) from had_step HHD.out hh1 HYJ.out HN2.out (fun q hq => by rw [HYD.out]; exact move_other hq))
        have hvl : v < s := by have := HV0.out; omega
        have hvb : 0 ≤ v ∧ v ≤ 2 := by have := HV0.out; omega
        have hfu2 := Lib.hid hfu
        clear hh2 hfu HYD
        go_quiet (fail)
        have hbN := below_dn (Below.refl wf.heap.size wf) nq
        generalize hwq : wf.drewN nq = wq at *
        replace PB2 := PB2.keep hbN l6
        replace yo := Lib.hid (OwnH.below yo.out hbN)
        replace cH1 := kst hbN (by omega) cH1
        replace fH1 := (hbN.frozen (p := ⟨gH, J, none⟩) (by show gH < wf.heap.size; omega)).trans fH1
        replace hbD2 := bt hbD2 hbN
        replace l6 := Nat.lt_of_lt_of_le l6 hbN.size
        clear hbN hwq g0 g1 g2 g3 g4
        have vw : IntKind.i64.wrap (v + 1) = v + 1 := w6 _ (by omega) (by omega)
        go_upto_region 19 with fail
        have hbS : Below gH wq (wq.setCell ⟨gH, J, none⟩ (.int .i64 (v + 1))) := (Below.refl gH wq).setCell (Nat.le_refl gH) _
        have HDO3 := (OwnV.store (ints_tab_length Z hd) (HDO.below hbD2) J (.int .i64 (v + 1))).1
        rw [HV.out, tab_set] at HDO3
        have GG3 := (GG.keep hbD2 (by omega)).keep hbS (by omega)
        have PA3 := (PA.keep hbD2 (by omega)).keep hbS (by omega)
        have PB3 := PB2.apart (show wd.heap.size ≠ gH by omega) (o := J) (.int .i64 (v + 1))
        have yo3 := Lib.hid (OwnH.cell_set yo.out (show gH < be by omega) (o := J) (.int .i64 (v + 1)))
        have hb3 := (bt hb0 hbD2).setCell (p := ⟨gH, J, none⟩) (by show w.heap.size ≤ gH; omega) (.int .i64 (v + 1))
        have l3 : wd.heap.size < (wq.setCell ⟨gH, J, none⟩ (.int .i64 (v + 1))).heap.size := by simp; omega
        rw [← HV.out] at HDO3
        have HDO3' := HDO3
        clear cH1 fH1 vw hbS yo PB2 hbD2 l6 PA GG HDO HOF cH0 fH0 HDO3
        generalize wq.setCell ⟨gH, J, none⟩ (.int .i64 (v + 1)) = ws at *
        have cH2 := OwnV.cell HDO3' J (by rw [ints_tab_length]; exact hJN)
        rw [gmt.tab_get, show bump hd J J = v + 1 by unfold gmt.bump; rw [if_pos rfl, ← HV.out]] at cH2
        obtain ⟨g0, g1, g2, g3, g4⟩ := id GG3
        obtain ⟨p0, p1, p2, p3, p4, p5, p6, -, -, -, -, -, -, -⟩ := id PB3
        have HSP := Lib.hid (show Calls Tryd.prog 9 #[.agg #[.int .i64 Z, .int .i64 D, .int .i64 s, .int .i64 l, .int .i64 a], y.v, .int .i64 J] ws fun e w' => e = .returned (.tuple #[.int .i64 (s - (v + 1)), .int .i64 0]) ∧ Below ws.heap.size ws w' from by
          have h9 := spares_g hV Z D s l a y ws J h2 (tn HT.out hb3) hHO.out (AV.Own.inn yo3.out) HGY.out HYJ.out
          rwa [show (D : Int) + 1 + s - h2.nx = s - (v + 1) by have := HN2.out; have := HV0.out; omega] at h9)
        unfold AV.v at HSP
        go_upto_region 20 with (go_at_call 9; (with_reducible refine HSP.out.mono ?_); rintro e w8 ⟨rfl, hb8⟩)
        replace GG3 := GG3.keep hb8 (by omega)
        replace PA3 := PA3.keep hb8 (by omega)
        replace PB3 := PB3.keep hb8 l3
        replace HDO3' := HDO3'.below hb8
        replace yo3 := Lib.hid (OwnH.below yo3.out hb8)
        replace cH2 := kst hb8 (by omega) cH2
        replace hb3 := bt hb3 hb8
        replace l3 := Nat.lt_of_lt_of_le l3 hb8.size
        clear HSP hb8 g0 g1 g2 g3 g4 p0 p1 p2 p3 p4 p5 p6
        obtain ⟨g0, g1, g2, g3, g4⟩ := id GG3
        have q1 : ((s - (v + 1)) != (s - (v + 1))) = false := by simp
        have q2 : IntKind.i64.wrap (s - (v + 1)) = s - (v + 1) := w6 _ (by omega) (by omega)
        go_quiet (fail)
        have hbN := below_dn (Below.refl w8.heap.size w8) nq
        replace GG3 := GG3.keep hbN (by omega)
        replace PA3 := PA3.keep hbN (by omega)
        replace PB3 := PB3.keep hbN l3
        replace HDO3' := HDO3'.below hbN
        replace yo3 := Lib.hid (OwnH.below yo3.out hbN)
        replace hb3 := bt hb3 hbN
        replace l3 := Nat.lt_of_lt_of_le l3 hbN.size
        clear hbN q1 q2 g0 g1 g2 g3 g4 cH2
        generalize w8.drewN nq = w9 at *
        obtain ⟨p0, p1, p2, p3, p4, p5, p6, -, -, -, -, -, -, -⟩ := id PB3
        obtain ⟨a0, a1, a2, a3, a4, a5, a6, f0, f1, f2, f3, f4, f5, f6⟩ := id PA3
        go_upto_region 23 with fail
        have PA4 := sev_set PA3 (.int .i64 y.gen) (.int .i64 y.ep) (.int .i64 y.pos) (.int .i64 y.seq) (.int .i64 y.last) (.string y.lab) (.slice y.HA y.hs.length y.hc)
        have GG4 := g5_set7 GG3 (show gG ≠ gA by omega) (.int .i64 y.gen) (.int .i64 y.ep) (.int .i64 y.pos) (.int .i64 y.seq) (.int .i64 y.last) (.string y.lab) (.slice y.HA y.hs.length y.hc)
        have HDO4 := ownV_set7 HDO3' (show (Value.slice (some ⟨gH, 0, none⟩) Z Z).ownBlock ≠ some gA by simp [Value.ownBlock]; omega) (.int .i64 y.gen) (.int .i64 y.ep) (.int .i64 y.pos) (.int .i64 y.seq) (.int .i64 y.last) (.string y.lab) (.slice y.HA y.hs.length y.hc)
        have OF4 := Lib.hid ((off_own yo3.out (show gA < be by omega) (show gH < be by omega)).set7 (.inl rfl) (.int .i64 y.gen) (.int .i64 y.ep) (.int .i64 y.pos) (.int .i64 y.seq) (.int .i64 y.last) (.string y.lab) (.slice y.HA y.hs.length y.hc))
        have hb4 := below_7 (v0 := .int .i64 y.gen) (v1 := .int .i64 y.ep) (v2 := .int .i64 y.pos) (v3 := .int .i64 y.seq) (v4 := .int .i64 y.last) (v5 := .string y.lab) (v6 := .slice y.HA y.hs.length y.hc) (g := gA) hb3 (by omega)
        have l4 : gH < ((((((((w9.setCell ⟨gA, 0, none⟩ (.int .i64 y.gen)).setCell ⟨gA, 1, none⟩ (.int .i64 y.ep)).setCell ⟨gA, 2, none⟩ (.int .i64 y.pos)).setCell ⟨gA, 3, none⟩ (.int .i64 y.seq)).setCell ⟨gA, 4, none⟩ (.int .i64 y.last)).setCell ⟨gA, 5, none⟩ (.string y.lab)).setCell ⟨gA, 6, none⟩ (.slice y.HA y.hs.length y.hc))).heap.size := by simp; omega
        clear p0 p1 p2 p3 p4 p5 p6 a0 a1 a2 a3 a4 a5 a6 f0 f1 f2 f3 f4 f5 f6 PA3 PB3 GG3 HDO3' yo3 hb3 l3
        generalize (((((((w9.setCell ⟨gA, 0, none⟩ (.int .i64 y.gen)).setCell ⟨gA, 1, none⟩ (.int .i64 y.ep)).setCell ⟨gA, 2, none⟩ (.int .i64 y.pos)).setCell ⟨gA, 3, none⟩ (.int .i64 y.seq)).setCell ⟨gA, 4, none⟩ (.int .i64 y.last)).setCell ⟨gA, 5, none⟩ (.string y.lab)).setCell ⟨gA, 6, none⟩ (.slice y.HA y.hs.length y.hc)) = wg at *
        go_upto_region 25 with fail
        obtain ⟨LO, hLO⟩ : ∃ q, q = a + 2 * l + 2 * (Z : Int) + (J : Int) * ((D : Int) + 1 + s) + 0 := ⟨_, rfl⟩
        have hLB : 0 ≤ LO ∧ LO ≤ 1000 := by
          have h9 := gmt.mul_le (i := (J : Int)) (n := 3) (P := 7) (by omega) (by omega) (by omega) (gmt.per_le hHO.out).2
          obtain ⟨-, -, -, o4, o5⟩ := hHO.out
          omega
        have HSL := Lib.hid (show ∀ W, Calls Tryd.prog 22 #[.agg #[.int .i64 Z, .int .i64 D, .int .i64 s, .int .i64 l, .int .i64 a], .int .i64 J, .int .i64 0] W fun e w' => e = .returned (.tuple #[.int .i64 LO, .int .i64 0]) ∧ Below W.heap.size W w' from fun W => by rw [hLO]; exact slot_at Z D s l a J 0 _ 0 W hHO.out (told1 ⟨⟨k2, k1⟩, by omega, by omega⟩))
        have HHY := Lib.hid (good_home HGY.out HYJ.out)
        have HLO := Lib.hid hLO
        clear hLO
        go_loopw [19, 20] (fun mv i W => ∃ (t : Nat) (AM : Option Addr) (cm : Nat), t ≤ D + 1 ∧ i = .int .i64 ((t : Int) - 1) ∧ mv = .slice AM t cm ∧ OwnV W wg.heap.size 3 (.slice AM t cm) (ints (mps Z D s l a J h2 D t)) ∧ Below wg.heap.size wg W) (fun _ i _ => D + 1 - (RowKit.intOf i + 1).toNat)
        case atStart => exact ⟨0, none, 0, by omega, rfl, rfl, ownV_nil _ _ _, Below.refl _ _⟩
        case round =>
          obtain ⟨wr2, rfl⟩ : ∃ q, q = wr := ⟨wr, rfl⟩
          obtain ⟨t, AM, cm, ht, rfl, rfl, hown, hbg⟩ := hrel
          by_cases htD : t ≤ D
          case neg =>
            obtain rfl : t = D + 1 := by omega
            have i9 : ¬ (((D + 1 : Nat) : Int) - 1) < (D : Int) := by omega
            obtain ⟨g0, g1, g2, g3, g4⟩ := GG4.keep hbg (by omega)
            go_wp2_with fail
            go_roundw
            case rel => exact ⟨k + 1, y, _, by omega, by go_num, PA4.keep hbg (by omega), Lib.hid (OF4.out.below hbg), HGY, HHN, HDO4.below hbg, GG4.keep hbg (by omega), bt hb4 hbg, Nat.lt_of_lt_of_le l4 hbg.size⟩
            case measure => simp [RowKit.intOf]; omega
          have i9 : ((t : Int) - 1) < (D : Int) := by omega
          obtain ⟨i, p, hi, hp, hm, hp0, hp1, -⟩ := mp_at (z := (Z : Int)) (l := l) (a := a) (J := (J : Int)) HHY.out rfl htD
          obtain ⟨X1, hX1⟩ : ∃ q, q = mp Z D s l a J h2 D t := ⟨_, rfl⟩
          have hXL : LO ≤ X1 ∧ X1 ≤ LO + D + s := by rw [hX1, hm, HLO.out]; unfold slotA; omega
          have hwt : IsWhat (D : Int) ((t : Int) - 1) := by unfold IsWhat; omega
          have HAY := Lib.hid (show Calls Tryd.prog 8 #[.agg #[.int .i64 Z, .int .i64 D, .int .i64 s, .int .i64 l, .int .i64 a], y.v, .int .i64 J, .int .i64 ((t : Int) - 1)] wr2 fun e w' => e = .returned (.tuple #[.int .i64 X1, .int .i64 0]) ∧ Below wr2.heap.size wr2 w' from by
            rw [hX1, hm]
            exact addr_g hV Z D s l a y wr2 J i _ p h2 (tn HT.out (bt hb4 hbg)) hHO.out (OF4.out.below hbg).inn HGY.out HYJ.out hwt hi hp)
          unfold AV.v at HAY
          have HNE := Lib.hid (show ∀ q : Nat, q < t → mp Z D s l a J h2 D q ≠ X1 from fun q hq => by rw [hX1]; exact mp_ne HHY.out rfl htD hq)
          have GG5 := GG4.keep hbg (by omega)
          obtain ⟨g0, g1, g2, g3, g4⟩ := id GG5
          obtain ⟨a0, a1, a2, a3, a4, a5, a6, -, -, -, -, -, -, -⟩ := PA4.keep hbg (by omega)
          have lr2 := Nat.lt_of_lt_of_le l4 hbg.size
          have HX1 := Lib.hid hX1
          clear hi hp hm hp0 hp1 hwt hX1
          go_upto_region 28 with (go_at_call 8; (with_reducible refine HAY.out.mono ?_); rintro e wb1 ⟨rfl, hq1⟩)
          replace GG5 := GG5.keep hq1 (by omega)
          replace hown := hown.below hq1
          replace hbg := bt hbg hq1
          replace lr2 := Nat.lt_of_lt_of_le lr2 hq1.size
          clear hq1 HAY g0 g1 g2 g3 g4 a0 a1 a2 a3 a4 a5 a6
          obtain ⟨g0, g1, g2, g3, g4⟩ := id GG5
          go_upto_region 29 with (go_at_call 22; (with_reducible refine (HSL.out _).mono ?_); rintro e wb2 ⟨rfl, hq1⟩)
          replace GG5 := GG5.keep hq1 (by omega)
          replace hown := hown.below hq1
          replace hbg := bt hbg hq1
          clear hq1 g0 g1 g2 g3 g4 lr2
          obtain ⟨g0, g1, g2, g3, g4⟩ := id GG5
          have d1 : decide (X1 < LO) = false := decide_eq_false (by omega)
          have d2 : decide (LO + (D : Int) + s < X1) = false := decide_eq_false (by omega)
          have d3 : IntKind.i64.wrap (LO + (D : Int)) = LO + D := w6 _ (by omega) (by omega)
          have d4 : IntKind.i64.wrap (LO + (D : Int) + s) = LO + D + s := w6 _ (by omega) (by omega)
          go_upto_region 32 with fail
          clear d1 d2 d3 d4 g0 g1 g2 g3 g4 GG5
          go_loop [25] (fun i => ∃ q : Nat, q ≤ t ∧ i = .int .i64 q) (fun i => t - (RowKit.intOf i).toNat)
          case atStart => exact ⟨0, by omega, rfl⟩
          case round =>
            obtain ⟨q, hq, rfl⟩ := hrel
            by_cases hqt : q < t
            · have r1 : (q : Int) < (t : Int) := by omega
              have r2 : (0 : Int) ≤ (q : Int) := by omega
              obtain ⟨gm, cm', hvm, hcm, -, -, -⟩ := hown.at (by rw [ints_length, mps_length]; omega)
              simp only [Value.slice.injEq] at hvm
              obtain ⟨rfl, -, rfl⟩ := hvm
              rw [ints_length, mps_length] at hcm
              have cq := OwnV.cell hown q (by rw [ints_length, mps_length]; exact hqt)
              rw [mps_get] at cq
              have r3 : (t : Int) ≤ (cm : Int) := by omega
              have r4 : (mp Z D s l a J h2 D q == X1) = false := beq_eq_false_iff_ne.2 (HNE.out q hqt)
              go_wp2_with fail
              go_round
              case rel => exact ⟨q + 1, by omega, by go_num⟩
              case measure => simp [RowKit.intOf]; omega
            · obtain rfl : q = t := by omega
              have r1 : ¬ (q : Int) < (q : Int) := by omega
              have hle : (ints (mps Z D s l a J h2 D q)).length = q := by rw [ints_length, mps_length]
              have HLE := Lib.hid hle
              clear hle
              go_wp2_with (first
                | (at_builtin
                   refine wpList_appV _ rfl (.tmp 186) (.tmp 188) _ _ rfl wg.heap.size 3 tvI (.slice AM q cm) (ints (mps Z D s l a J h2 D q)) rfl (hown.alloc _) _ [.int .i64 X1] rfl ((SlV.of_block (vs := [.int .i64 X1]) (heap_alloc_new _ _) rfl (Nat.lt_succ_self _)).src (ints_one [X1]) Tryd.underlying42 1) (by rw [HLE.out]; unfold maxLen; simp; omega) (by rw [HLE.out]; simp; omega) (by have := hbg.size; simp; omega) ?_
                   intro v2 w8' ho8 hg8 hat8
                   rw [HX1.out, mps_next] at ho8
                   obtain ⟨A2, d2, hv2, -, -, -, -⟩ := ho8.form
                   rw [ints_length, mps_length] at hv2
                   subst hv2))
              have hfin := (hbg.alloc hbg.size (.cells #[.int .i64 X1] 3)).grown hg8 (by have := hbg.size; simp; omega) (fun x hx => (World.ownsRow.lt hown x hx).1)
              go_roundw
              case rel => exact ⟨q + 1, A2, d2, by omega, by go_num, rfl, ho8, hfin⟩
              case measure => simp [RowKit.intOf]; omega
theorem placeApart_law (hV : ValidOk) (hC : CloneOk) (zn dn sn : Int) (A : Option Addr) (n lc : Nat) (f : Nat → Int × Int × Int) (w : World) (hT : Tabs w) (hc : n ≤ lc) (hA : Tris w w.heap.size A n f) :
    Calls Tryd.prog 4 #[.int .i64 zn, .int .i64 dn, .int .i64 sn, .slice A n lc] w fun e w' => e = .returned (.bool true) ∧ Below w.heap.size w w' := by
  by_cases hn : n ≤ 40
  · exact pa_go hV hC zn dn sn A n lc f w hT hn hc hA
  · exact pa_long zn dn sn A n lc w (by omega)
end Go.Proofs.YthbjfpgcinmjiaaDoor.plc
