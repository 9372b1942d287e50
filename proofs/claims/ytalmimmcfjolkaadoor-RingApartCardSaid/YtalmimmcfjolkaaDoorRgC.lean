/-
  RingApart: of a right log no slot is two transactions'. Conditions: 'Crg'.
-/
import Derived.Test.YtalmimmcfjolkaaDoorGRc
import Derived.Test.YtalmimmcfjolkaaDoorRgJ
import Derived.Deep.QuietTactic
import Derived.BigQuiet
import Derived.IntWalk
namespace Go.Proofs.YtalmimmcfjolkaaDoor.rng
open Go.RowKit Go.Lib
open Go.Proofs.YtalmimmcfjolkaaDoor.gmt (Ok rgeo_at)
open Go.Proofs.YtalmimmcfjolkaaDoor.anc (AV AC ac_new bl kal kst ks bm ka HeavyA light heavy_any right_p)
open Go.Proofs.YtalmimmcfjolkaaDoor.tbl (G5 g5_new)
open Go.Proofs.YtalmimmcfjolkaaDoor.img

theorem cn_le (P : Nat → Bool) (n : Nat) : cn P n ≤ n := by
  induction n with
  | zero => exact Nat.le_refl 0
  | succ n ih =>
    rw [cn]
    split <;> omega
theorem cnA_none {l : Int} {ts : List Txd} {n : Nat} (h : whoN l (n : Int) 0 ts = none) : cnA l ts (n + 1) = cnA l ts n := by
  unfold cnA
  rw [cn]
  simp [h]
theorem cnA_some {l : Int} {ts : List Txd} {n : Nat} {p : Nat × Int} (h : whoN l (n : Int) 0 ts = some p) : cnA l ts (n + 1) = cnA l ts n + 1 := by
  unfold cnA
  rw [cn]
  simp [h]
theorem cnI_none {l : Int} {ts : List Txd} {n j : Nat} (h : whoN l (n : Int) 0 ts = none) : cnI l ts j (n + 1) = cnI l ts j n := by
  unfold cnI
  rw [cn]
  simp [h]
theorem cnI_same {l : Int} {ts : List Txd} {n j : Nat} {k : Int} (h : whoN l (n : Int) 0 ts = some (j, k)) : cnI l ts j (n + 1) = cnI l ts j n + 1 := by
  unfold cnI
  rw [cn]
  simp [h]
theorem cnI_other {l : Int} {ts : List Txd} {n j j' : Nat} {k : Int} (h : whoN l (n : Int) 0 ts = some (j, k)) (hj : j ≠ j') : cnI l ts j' (n + 1) = cnI l ts j' n := by
  unfold cnI
  rw [cn]
  simp [h, hj]
set_option maxRecDepth 100000 in
set_option maxHeartbeats 8000000 in
theorem rap_main (z d s l a : Int) (x : AV) (yA : Option Addr) (yc n : Nat) (ys : List Int) (fl : Int) (w : World) (hc : Crg w) (hx : x.In w w.heap.size) (hh : ¬ HeavyA x.d) (h40 : ¬ (40 : Int) < (n : Int)) (hyn : ys.length = n) (hy : SlV w w.heap.size yA (ints ys)) (ho : Ok z d s l a) (hg : anc.Good z d s l x.d) (hq : ¬ (1000000 : Int) < x.seq) (hfl : 0 ≤ fl ∧ fl ≤ 255) :
    Calls Tryd.prog 3 #[.agg #[.int .i64 z, .int .i64 d, .int .i64 s, .int .i64 l, .int .i64 a], .agg #[.int .i64 x.gen, .int .i64 x.ep, .int .i64 x.pos, .int .i64 x.seq, .int .i64 x.last, .string x.lab, .slice x.HA x.hs.length x.hc], .slice yA n yc, .int .u8 fl] w fun e w' => e = .returned (.bool true) ∧ Below w.heap.size w w' := by
  obtain ⟨t1, t2, t3⟩ := light hh
  have HC := Lib.hid hc
  have HO := Lib.hid ho
  have HX := Lib.hid hx
  have HGD := Lib.hid hg
  have hpos : 0 ≤ x.pos ∧ x.pos ≤ l - 1 := hg.2.2.2.2.2.1
  have hsq : 1 ≤ x.seq ∧ x.seq ≤ 4294967295 := hg.2.2.1
  have hl : 14 ≤ l ∧ l ≤ 30 := ho.2.2.2.1
  have cH := fun W (hW : Below w.heap.size w W) => heavy_any false x W (hx.next hW) (iff_of_false Bool.false_ne_true hh)
  have cG := fun W => rgeo_at true z d s l a W (iff_of_true rfl ho)
  have cR := fun W (hW : Below w.heap.size w W) => right_p z d s l a true x W ho (hx.next hW) (by omega) (fun r hr => by have := t3 r hr; omega) (by omega) (iff_of_true rfl hg)
  obtain ⟨F, hF⟩ : ∃ F, F = UInt8.ofNat fl.toNat := ⟨_, rfl⟩
  have HL := Lib.hid (show ∀ W, Below w.heap.size w W → Calls Tryd.prog 9 #[.agg #[.int .i64 z, .int .i64 d, .int .i64 s, .int .i64 l, .int .i64 a], .agg #[.int .i64 x.gen, .int .i64 x.ep, .int .i64 x.pos, .int .i64 x.seq, .int .i64 x.last, .string x.lab, .slice x.HA x.hs.length x.hc], .slice yA n yc, .int .u8 fl] W fun e w' => (∃ (A : Option Addr) (c N : Nat) (ts : List TxR), e = .returned (.slice A N c) ∧ N = ts.length ∧ tds ts = logX z d l (tabB d) F x.seq 0 x.pos 0 ys ∧ OwnT w' W.heap.size (.slice A N c) ts) ∧ Below W.heap.size W w' from fun W hW => by
    refine (log_c z d s l a x.gen x.ep x.pos x.seq x.last x.lab x.HA x.hs.length x.hc yA yc ys n fl W ho (hy.next hW) hyn (by omega) hpos (by omega) hfl).mono ?_
    rintro e w' ⟨⟨v, ts, rfl, hts, hO⟩, hb⟩
    obtain ⟨A, c, rfl, -⟩ := ownT_in hO
    exact ⟨⟨A, c, ts.length, ts, rfl, rfl, by rw [hF]; exact hts, hO⟩, hb⟩)
  have HLG := Lib.hid (show LogOk z d l x.pos x.seq 0 (logX z d l (tabB d) F x.seq 0 x.pos 0 ys) from by
    have h := logX_ok (l := l) ho.1.1 ho.2.1 (tabB_told (d := d) (by have := ho.2.1; omega)) F x.seq ys 0 x.pos 0 (by omega)
    rw [show x.seq + ((0 : Nat) : Int) = x.seq by omega] at h
    exact h)
  unfold AV.v at *
  have GG := (g5_new w z d s l a).keep (bl (w.alloc (.cells #[.int .i64 z, .int .i64 d, .int .i64 s, .int .i64 l, .int .i64 a] 23)) (.cells #[.int .i64 x.gen, .int .i64 x.ep, .int .i64 x.pos, .int .i64 x.seq, .int .i64 x.last, .string x.lab, .slice x.HA x.hs.length x.hc] 26)) (by simp)
  have FF := ac_new (w.alloc (.cells #[.int .i64 z, .int .i64 d, .int .i64 s, .int .i64 l, .int .i64 a] 23)) x
  have hb0 := kal (bl w (.cells #[.int .i64 z, .int .i64 d, .int .i64 s, .int .i64 l, .int .i64 a] 23)) (.cells #[.int .i64 x.gen, .int .i64 x.ep, .int .i64 x.pos, .int .i64 x.seq, .int .i64 x.last, .string x.lab, .slice x.HA x.hs.length x.hc] 26)
  rw [show (w.alloc (.cells #[.int .i64 z, .int .i64 d, .int .i64 s, .int .i64 l, .int .i64 a] 23)).heap.size = w.heap.size + 1 by simp] at FF
  have l1 : w.heap.size + 1 < ((w.alloc (.cells #[.int .i64 z, .int .i64 d, .int .i64 s, .int .i64 l, .int .i64 a] 23)).alloc (.cells #[.int .i64 x.gen, .int .i64 x.ep, .int .i64 x.pos, .int .i64 x.seq, .int .i64 x.last, .string x.lab, .slice x.HA x.hs.length x.hc] 26)).heap.size := by simp
  clear hx hh ho hg t1 t3 hc hy hF
  go_enter Tryd.func3, Tryd.ntmps3
  go_upto_region 1 with fail
  generalize (w.alloc (.cells #[.int .i64 z, .int .i64 d, .int .i64 s, .int .i64 l, .int .i64 a] 23)).alloc (.cells #[.int .i64 x.gen, .int .i64 x.ep, .int .i64 x.pos, .int .i64 x.seq, .int .i64 x.last, .string x.lab, .slice x.HA x.hs.length x.hc] 26) = w0 at *
  obtain ⟨c0, c1, c2, c3, c4, c5, c6⟩ := id FF
  obtain ⟨g0, g1, g2, g3, g4⟩ := id GG
  go_upto_region 4 with (first
    | (go_at_call 6; (with_reducible refine (cH _ hb0).mono ?_); rintro e wq ⟨rfl, hbq⟩; replace FF := FF.keep hbq (by omega); replace GG := GG.keep hbq (by omega); replace l1 := Nat.lt_of_lt_of_le l1 hbq.size; clear c0 c1 c2 c3 c4 c5 c6 g0 g1 g2 g3 g4; obtain ⟨c0, c1, c2, c3, c4, c5, c6⟩ := id FF; obtain ⟨g0, g1, g2, g3, g4⟩ := id GG; replace hb0 := bt hb0 hbq; clear hbq)
    | (go_at_call 7; (with_reducible refine (cG _).mono ?_); rintro e wq ⟨rfl, hbq⟩; replace FF := FF.keep hbq (by omega); replace GG := GG.keep hbq (by omega); replace l1 := Nat.lt_of_lt_of_le l1 hbq.size; clear c0 c1 c2 c3 c4 c5 c6 g0 g1 g2 g3 g4; obtain ⟨c0, c1, c2, c3, c4, c5, c6⟩ := id FF; obtain ⟨g0, g1, g2, g3, g4⟩ := id GG; replace hb0 := bt hb0 hbq; clear hbq)
    | (go_at_call 8; (with_reducible refine (cR _ hb0).mono ?_); rintro e wq ⟨rfl, hbq⟩; replace FF := FF.keep hbq (by omega); replace GG := GG.keep hbq (by omega); replace l1 := Nat.lt_of_lt_of_le l1 hbq.size; clear c0 c1 c2 c3 c4 c5 c6 g0 g1 g2 g3 g4; obtain ⟨c0, c1, c2, c3, c4, c5, c6⟩ := id FF; obtain ⟨g0, g1, g2, g3, g4⟩ := id GG; replace hb0 := bt hb0 hbq; clear hbq)
    | (go_at_call 9; (with_reducible refine (HL.out _ hb0).mono ?_); rintro e wL ⟨⟨A, c, N, ts, rfl, hN, hts, hO⟩, hbq⟩; have HNN := Lib.hid hN; clear hN; replace FF := FF.keep hbq (by omega); replace GG := GG.keep hbq (by omega); replace l1 := Nat.lt_of_lt_of_le l1 hbq.size; clear c0 c1 c2 c3 c4 c5 c6 g0 g1 g2 g3 g4; obtain ⟨c0, c1, c2, c3, c4, c5, c6⟩ := id FF; obtain ⟨g0, g1, g2, g3, g4⟩ := id GG; replace hb0 := bt hb0 hbq; clear hbq)
    | fail)
  clear cH cG cR HL
  have hN40 : N ≤ 40 := by
    have h1 := logX_le z d l (tabB d) F x.seq ys 0 x.pos 0
    rw [← hts, tds_length] at h1
    have := HNN.out
    omega
  have HIN := Lib.hid (ownT_at hO).2
  have HTS := Lib.hid hts
  have HSH := Lib.hid (show TShort 1048576 ts from (short_of ⟨by have := HO.out.2.1; omega, HO.out.2.1.2⟩ hts).more (by decide))
  have HLT := Lib.hid (show LogOk z d l x.pos x.seq 0 (tds ts) by rw [hts]; exact HLG.out)
  have HBL := Lib.hid hb0
  obtain ⟨D, hD⟩ : ∃ D, D = tds ts := ⟨_, rfl⟩
  have HD := Lib.hid hD
  have HLD := Lib.hid (show LogOk z d l x.pos x.seq 0 D by rw [hD]; exact HLT.out)
  have HDL := Lib.hid (show D.length = N by rw [hD, tds_length]; exact HNN.out.symm)
  have HCK := Lib.hid (show ∀ W, Below wL.heap.size wL W → Calls Tryd.prog 10 #[.agg #[.int .i64 z, .int .i64 d, .int .i64 s, .int .i64 l, .int .i64 a], .agg #[.int .i64 x.gen, .int .i64 x.ep, .int .i64 x.pos, .int .i64 x.seq, .int .i64 x.last, .string x.lab, .slice x.HA x.hs.length x.hc], .slice A N c] W fun e w' => e = .returned (.int .i64 0) ∧ Below W.heap.size W w' from fun W hW => HC.out.check true z d s l a x ⟨A, c, ts⟩ N W (bt HBL.out hW) HO.out (HX.out.next (bt HBL.out hW)) (by omega) (HIN.out.next hW) HNN.out.symm (by omega) HSH.out (iff_of_true rfl ⟨HGD.out, HLT.out⟩))
  have HWH := Lib.hid (show ∀ (q : Nat) (W : World), (q : Int) ≤ l - 1 → Below wL.heap.size wL W → Calls Tryd.prog 11 #[.agg #[.int .i64 z, .int .i64 d, .int .i64 s, .int .i64 l, .int .i64 a], .slice A N c, .int .i64 (q : Int)] W fun e w' => e = .returned (whoE l (q : Int) D) ∧ Below W.heap.size W w' from fun q W h1 hW => by
    rw [HD.out]
    exact HC.out.who z d s l a (q : Int) ⟨A, c, ts⟩ N W (bt HBL.out hW) HO.out (Int.natCast_nonneg q) h1 (HIN.out.next hW) HNN.out.symm (by omega))
  have HNX := Lib.hid (show ∀ W, Below wL.heap.size wL W → Calls Tryd.prog 12 #[.agg #[.int .i64 z, .int .i64 d, .int .i64 s, .int .i64 l, .int .i64 a], .agg #[.int .i64 x.gen, .int .i64 x.ep, .int .i64 x.pos, .int .i64 x.seq, .int .i64 x.last, .string x.lab, .slice x.HA x.hs.length x.hc], .slice A N c] W fun e w' => e = .returned (.tuple #[.int .i64 ((x.pos + usedN D) % l), .int .i64 (x.seq + N), .int .i64 0]) ∧ Below W.heap.size W w' from fun W hW => by
    rw [HD.out]
    exact HC.out.next z d s l a x ⟨A, c, ts⟩ N W (bt HBL.out hW) HO.out (HX.out.next (bt HBL.out hW)) (by omega) (HIN.out.next hW) HNN.out.symm (by omega) HSH.out HGD.out HLT.out (by omega))
  have HUS := Lib.hid (show ∀ W, Below wL.heap.size wL W → Calls Tryd.prog 13 #[.slice A N c] W fun e w' => e = .returned (.int .i64 (usedN D)) ∧ Below W.heap.size W w' from fun W hW => by
    rw [HD.out]
    exact HC.out.used ⟨A, c, ts⟩ N W (bt HBL.out hW) (HIN.out.next hW) HNN.out.symm (by omega))
  have HWK := Lib.hid (fun W (hW : Below wL.heap.size wL W) => wk_ring W (HC.out.more (bt HBL.out hW)))
  have HNM := Lib.hid (show ∀ y ∈ D, 0 ≤ y.nm ∧ y.nm ≤ 30 from fun y hy => by
    obtain ⟨j, hj, rfl⟩ := List.mem_iff_getElem.1 hy
    obtain ⟨-, h2, -⟩ := LogOk.place (pos := x.pos) D x.pos x.seq 0 j hj (by rw [Int.add_zero]; exact (Int.emod_eq_of_lt hpos.1 (by omega)).symm) HLD.out
    obtain ⟨-, h4⟩ := LogOk.some D x.pos x.seq 0 j hj HLD.out
    have h5 := offN_nonneg HLD.out j
    omega)
  clear hO hts hD HTS HLG
  go_upto_region 6 with (go_at_call 10; (with_reducible refine (HCK.out _ (Below.refl _ _)).mono ?_); rintro e wC ⟨rfl, hbC⟩)
  have GGC := GG.keep hbC (by omega)
  have FFC := FF.keep hbC (by omega)
  have lC := Nat.lt_of_lt_of_le l1 hbC.size
  have HLC := Lib.hid (show ∀ W, Below wC.heap.size wC W → Below wL.heap.size wL W from fun W hW => bt hbC hW)
  have HMG := Lib.hid (show ∀ W, Below wC.heap.size wC W → G5 W w.heap.size z d s l a ∧ AC W (w.heap.size + 1) x from fun W hW => ⟨GGC.keep hW (by omega), FFC.keep hW (by omega)⟩)
  have HIC := Lib.hid (HIN.out.next hbC)
  have mk := make_nrs N (by omega) wC
  have HN0 := ownN_new wC wC.heap.size N (by omega) (Nat.le_refl _)
  have hbM := bl wC (.cells (ncells N) 27)
  clear c0 c1 c2 c3 c4 c5 c6 g0 g1 g2 g3 g4 GG FF HIN HCK
  go_upto_region 9 with fail
  obtain ⟨g, hgg⟩ : ∃ g, g = wC.heap.size := ⟨_, rfl⟩
  rw [← hgg] at HN0
  have HGG := Lib.hid hgg
  clear hgg mk GGC FFC
  generalize wC.alloc (.cells (ncells N) 27) = wM at *
  go_loopw [11, 12] (fun nv sv w' => ∃ (q : Nat) (rs : List NR), (q : Int) ≤ l ∧ sv = .int .i64 (q : Int) ∧ nv = .int .i64 ((cnA l D q : Nat) : Int) ∧ OwnN w' wC.heap.size wC.heap.size N rs ∧ (∀ j, j < N → ∃ r, rs[j]? = some r ∧ r.vs.length = cnI l D j q) ∧ Below wC.heap.size wC w') (fun _ sv _ => l.toNat - (RowKit.intOf sv).toNat)
  case atStart => exact ⟨0, List.replicate N ⟨none, 0, []⟩, by omega, rfl, rfl, by rw [HGG.out] at HN0; exact HN0, fun j hj => ⟨_, List.getElem?_replicate_of_lt hj, rfl⟩, hbM⟩
  case round =>
    obtain ⟨w5, rfl⟩ : ∃ x, x = wr := ⟨wr, rfl⟩
    obtain ⟨q, rs, hql, rfl, rfl, hown, hrs, hbr⟩ := hrel
    have lw := hbr.size
    obtain ⟨⟨g0, g1, g2, g3, g4⟩, FF5⟩ := HMG.out w5 hbr
    have hcn := cn_le (fun s => (whoN l (s : Int) 0 D).isSome) q
    have hcn : cnA l D q ≤ q := hcn
    by_cases hlt : (q : Int) < l
    · cases hw : whoN l (q : Int) 0 D with
      | none =>
        have HW := Lib.hid (show ∀ W, Below wL.heap.size wL W → Calls Tryd.prog 11 #[.agg #[.int .i64 z, .int .i64 d, .int .i64 s, .int .i64 l, .int .i64 a], .slice A N c, .int .i64 (q : Int)] W fun e w' => e = .returned (.tuple #[.int .i64 0, .int .i64 0, .bool false]) ∧ Below W.heap.size W w' from fun W hW => by
          have h9 := HWH.out q W (by omega) hW
          unfold whoE at h9
          rw [hw] at h9
          exact h9)
        have HA := Lib.hid (cnA_none hw)
        have HI := Lib.hid (fun j => cnI_none (j := j) hw)
        have HRS := Lib.hid hrs
        clear hw hrs
        go_wp2_with (go_at_call 11; (with_reducible refine (HW.out _ (HLC.out _ hbr)).mono ?_); rintro e w6 ⟨rfl, hb6⟩)
        go_roundw
        case rel => exact ⟨q + 1, rs, by omega, by go_num, by rw [HA.out], hown.below hb6, fun j hj => by
          rw [HI.out j]
          exact HRS.out j hj, hbr.trans (hb6.mono lw)⟩
        case measure => simp [RowKit.intOf]; omega
      | some p =>
        obtain ⟨j, k⟩ := p
        obtain ⟨hjD, hk0, hk1, hkq⟩ := who_right (by omega) (by omega) HLD.out ⟨by omega, hlt⟩ hw
        have hjN : j < N := by rw [← HDL.out]; exact hjD
        obtain ⟨b1, off, r, hA, hb1, e0, e1, e2, e3, -, -, -, hrd⟩ := txn_at (HIC.out.h.below hbr) (HIC.out.i.below hbr) (show j < ts.length by rw [← HNN.out]; exact hjN)
        have hDj : D[j] = r.d := by
          rw [← HD.out, List.getElem?_eq_getElem hjD] at hrd
          exact Option.some.inj hrd
        rw [hDj] at hk1 hkq
        have hk1 : k < r.nm := hk1
        have hkq : (r.ps + k) % l = (q : Int) := hkq
        obtain ⟨hp0, hp1, hn0, hn1⟩ : 0 ≤ r.ps ∧ r.ps < l ∧ 0 ≤ r.nm ∧ r.nm ≤ 30 := by
          obtain ⟨h1, -, -⟩ := LogOk.place (pos := x.pos) D x.pos x.seq 0 j hjD (by rw [Int.add_zero]; exact (Int.emod_eq_of_lt hpos.1 (by omega)).symm) HLD.out
          have h2 := HNM.out D[j] (List.getElem_mem hjD)
          rw [hDj] at h1 h2
          have h1 : r.ps = _ := h1
          rw [h1]
          exact ⟨Int.emod_nonneg _ (by omega), Int.emod_lt_of_pos _ (by omega), h2.1, h2.2⟩
        have HW := Lib.hid (show ∀ W, Below wL.heap.size wL W → Calls Tryd.prog 11 #[.agg #[.int .i64 z, .int .i64 d, .int .i64 s, .int .i64 l, .int .i64 a], .slice A N c, .int .i64 (q : Int)] W fun e w' => e = .returned (.tuple #[.int .i64 (j : Int), .int .i64 k, .bool true]) ∧ Below W.heap.size W w' from fun W hW => by
          have h9 := HWH.out q W (by omega) hW
          unfold whoE at h9
          rw [hw] at h9
          exact h9)
        have HA := Lib.hid (cnA_some hw)
        have HI := Lib.hid (cnI_same hw)
        have HJ := Lib.hid (fun j' => cnI_other (j' := j') hw)
        have HRS := Lib.hid hrs
        obtain ⟨nr, hnr, hnl⟩ := hrs j hjN
        have HNL := Lib.hid hnl
        have hlen : nr.vs.length ≤ q := by rw [hnl]; exact cn_le _ q
        have v1 : IntKind.i64.wrap (r.ps + k) = r.ps + k := IntWalk.i64_in _ (by omega)
        have v2 : IntKind.i64.wrap (((cnA l D q : Nat) : Int) + 1) = ((cnA l D q : Nat) : Int) + 1 := IntWalk.i64_in _ (by omega)
        have v3 : (r.ps + k).tmod l = (q : Int) := by rw [Int.tmod_eq_emod_of_nonneg (by omega)]; exact hkq
        have v4 : ¬ l = 0 := by omega
        have v5 : (l == 0) = false := beq_eq_false_iff_ne.2 v4
        have v6 : ((q : Int) != (q : Int)) = false := bne_self_eq_false _
        have v7 : (0 : Int) ≤ (j : Int) := by omega
        have v8 : (j : Int) < (N : Int) := by omega
        have hA : A = some ⟨b1, off, none⟩ := hA
        subst hA
        have HKQ := Lib.hid hkq
        clear hw hrs hrd hDj hjD hkq hnl
        go_upto_region 13 with (go_at_call 11; (with_reducible refine (HW.out _ (HLC.out _ hbr)).mono ?_); rintro e w6 ⟨rfl, hb6⟩)
        have d0 := ks hb6 (by omega) e0
        have d1 := ks hb6 (by omega) e1
        have d2 := ks hb6 (by omega) e2
        have hbr6 := hbr.trans (hb6.mono lw)
        obtain ⟨⟨f0, f1, f2, f3, f4⟩, -⟩ := HMG.out w6 hbr6
        have hown6 := hown.below hb6
        clear e0 e1 e2 e3 g0 g1 g2 g3 g4
        go_quiet (fail)
        have hd6 : Below w6.heap.size w6 (w6.drewN nq) := below_dn (Below.refl _ _) nq
        have hown7 := hown6.below hd6
        have hbr7 := hbr6.trans (hd6.mono hbr6.size)
        clear hown6 hbr6 hd6 d0 d1 d2 f0 f1 f2 f3 f4
        generalize w6.drewN nq = w7 at *
        go_upto_region 16 with fail
        have hc7 := hown7.cell hnr
        have hnm7 : nr ∈ rs := List.mem_of_getElem? hnr
        have hownA := hown7.below (bl w7 (.cells #[.int .i64 k] 3))
        have l7 := hbr7.size
        have l7a := (bl w7 (.cells #[.int .i64 k] 3)).size
        go_wp2_with (first
          | (at_builtin; refine wpList_appV _ rfl (.tmp 114) (.tmp 116) _ _ rfl wC.heap.size 3 tvI (.slice nr.A nr.vs.length nr.c) (ints nr.vs) rfl (hownA.o nr hnm7) _ [.int .i64 k] rfl ((SlV.of_block (vs := [.int .i64 k]) (heap_alloc_new _ _) rfl (Nat.lt_succ_self _)).src (ints_one [k]) Tryd.underlying27 1) (by rw [ints_length]; unfold maxLen; simp; omega) (by rw [ints_length]; simp; omega) (by omega) ?_; intro v8 w8 o8 hg8 hd8; obtain ⟨A8, c8, rfl, o8'⟩ := own_formI o8; obtain ⟨q1, q2⟩ := hownA.head hnr hg8)
          | fail)
        have b8 := (hbr7.alloc l7 (.cells #[.int .i64 k] 3)).grown hg8 (by omega) (hown7.far hnr)
        have b9 := b8.setCell (p := ⟨wC.heap.size, j, none⟩) (Nat.le_refl _) (.slice A8 (nr.vs.length + 1) c8)
        have ha9 := hownA.app hnr o8' hg8 hd8
        go_roundw
        case rel => exact ⟨q + 1, rs.set j ⟨A8, c8, nr.vs ++ [k]⟩, by omega, by go_num, by rw [HA.out]; go_num, ha9, fun j' hj' => by
          by_cases hjj : j = j'
          · subst hjj
            refine ⟨_, List.getElem?_set_self (List.getElem?_eq_some_iff.1 hnr).1, ?_⟩
            rw [HI.out, ← HNL.out]
            simp
          · rw [List.getElem?_set_ne hjj, HJ.out j' hjj]
            exact HRS.out j' hj', b9⟩
        case measure => simp [RowKit.intOf]; omega
    · have hqL : l.toNat = q := by omega
      have hCN : ((cnA l D q : Nat) : Int) = usedN D := by
        rw [← hqL]
        exact cnA_all (by omega) (by omega) HLD.out HNM.out
      have HLN := Lib.hid (show ∀ j (hj : j < D.length), ∃ r, rs[j]? = some r ∧ (r.vs.length : Int) = D[j].nm from fun j hj => by
        obtain ⟨r, h1, h2⟩ := hrs j (by rw [← HDL.out]; exact hj)
        refine ⟨r, h1, ?_⟩
        rw [h2, ← hqL]
        exact cnI_all (by omega) (by omega) HLD.out hj)
      obtain ⟨U, hU⟩ : ∃ U, U = cnA l D q := ⟨_, rfl⟩
      rw [← hU] at hcn hCN ⊢
      have HCN := Lib.hid hCN
      clear hrs hCN hU
      go_upto_region 18 with fail
      clear g0 g1 g2 g3 g4
      go_loopw [16] (fun iv w' => ∃ (i : Nat), i ≤ N ∧ iv = .int .i64 (i : Int) ∧ Below w5.heap.size w5 w') (fun iv _ => N - (RowKit.intOf iv).toNat)
      case atStart => exact ⟨0, by omega, rfl, Below.refl _ _⟩
      case round =>
        obtain ⟨w6, rfl⟩ : ∃ x, x = wr := ⟨wr, rfl⟩
        obtain ⟨i, hi, rfl, hb6⟩ := hrel
        have hbr6 := hbr.trans (hb6.mono lw)
        have l6 := hb6.size
        obtain ⟨⟨g0, g1, g2, g3, g4⟩, FF6⟩ := HMG.out w6 hbr6
        by_cases hlt2 : i < N
        · have j1 : (i : Int) < (N : Int) := by omega
          have hiD : i < D.length := by rw [HDL.out]; exact hlt2
          obtain ⟨b1, off, r, hA, hb1, e0, e1, e2, e3, -, -, -, hrd⟩ := txn_at (HIC.out.h.below hbr6) (HIC.out.i.below hbr6) (show i < ts.length by rw [← HNN.out]; exact hlt2)
          have hDj : D[i] = r.d := by
            rw [← HD.out, List.getElem?_eq_getElem hiD] at hrd
            exact Option.some.inj hrd
          obtain ⟨nr, hnr, hnl⟩ := HLN.out i hiD
          have hc7 := (hown.below hb6).cell hnr
          have v1 : ((nr.vs.length : Int) != r.nm) = false := by
            rw [hnl, hDj]
            exact bne_self_eq_false _
          have hA : A = some ⟨b1, off, none⟩ := hA
          subst hA
          clear hrd hDj hnl hiD
          go_upto_region 20 with fail
          go_quiet (fail)
          go_wp2_with fail
          go_roundw
          case rel => exact ⟨i + 1, by omega, by go_num, below_dn hb6 _⟩
          case measure => simp [RowKit.intOf]; omega
        · have j1 : ¬ (i : Int) < (N : Int) := by omega
          have hLC6 := HLC.out w6 hbr6
          have HUN := Lib.hid (show ∀ W, Below wL.heap.size wL W → Calls Tryd.prog 13 #[.slice A N c] W fun e w' => e = .returned (.int .i64 (U : Int)) ∧ Below W.heap.size W w' from by
            have h9 := HUS.out
            rw [← HCN.out] at h9
            exact h9)
          have HN9 := Lib.hid (show ∀ W, Below wL.heap.size wL W → Calls Tryd.prog 12 #[.agg #[.int .i64 z, .int .i64 d, .int .i64 s, .int .i64 l, .int .i64 a], .agg #[.int .i64 x.gen, .int .i64 x.ep, .int .i64 x.pos, .int .i64 x.seq, .int .i64 x.last, .string x.lab, .slice x.HA x.hs.length x.hc], .slice A N c] W fun e w' => e = .returned (.tuple #[.int .i64 ((x.pos + (U : Int)) % l), .int .i64 (x.seq + N), .int .i64 0]) ∧ Below W.heap.size W w' from by
            have h9 := HNX.out
            rw [← HCN.out] at h9
            exact h9)
          have v1 : IntKind.i64.wrap (x.pos + (U : Int)) = x.pos + (U : Int) := IntWalk.i64_in _ (by omega)
          have v2 : IntKind.i64.wrap (x.seq + (N : Int)) = x.seq + (N : Int) := IntWalk.i64_in _ (by omega)
          obtain ⟨P, hP⟩ : ∃ P, P = (x.pos + (U : Int)) % l := ⟨_, rfl⟩
          have v3 : (x.pos + (U : Int)).tmod l = P := by rw [hP, Int.tmod_eq_emod_of_nonneg (by omega)]
          have v4 : ¬ l = 0 := by omega
          have v5 : (l == 0) = false := beq_eq_false_iff_ne.2 v4
          rw [← hP] at HN9
          clear hP
          obtain ⟨x0, x1, x2, x3, x4, x5, x6⟩ := id FF6
          have hbZ := Below.refl w6.heap.size w6
          have HM6 := Lib.hid (show ∀ W, Below w6.heap.size w6 W → G5 W w.heap.size z d s l a ∧ AC W (w.heap.size + 1) x ∧ Below wL.heap.size wL W from fun W hW => ⟨(HMG.out W (hbr6.trans (hW.mono hbr6.size))).1, (HMG.out W (hbr6.trans (hW.mono hbr6.size))).2, bt hLC6 hW⟩)
          go_wp2_with (first
            | (go_at_call 12; (with_reducible refine (HN9.out _ (HM6.out _ hbZ).2.2).mono ?_); rintro e w7 ⟨rfl, hb7⟩; (replace hbZ := bt hbZ hb7); (clear g0 g1 g2 g3 g4 x0 x1 x2 x3 x4 x5 x6); (obtain ⟨⟨g0, g1, g2, g3, g4⟩, ⟨x0, x1, x2, x3, x4, x5, x6⟩, -⟩ := HM6.out _ hbZ))
            | (go_at_call 13; (with_reducible refine (HUN.out _ (HM6.out _ hbZ).2.2).mono ?_); rintro e w8 ⟨rfl, hb8⟩; (replace hbZ := bt hbZ hb8); (clear g0 g1 g2 g3 g4 x0 x1 x2 x3 x4 x5 x6); (obtain ⟨⟨g0, g1, g2, g3, g4⟩, ⟨x0, x1, x2, x3, x4, x5, x6⟩, -⟩ := HM6.out _ hbZ))
            | (go_at_call 14; (with_reducible refine (HWK.out _ (HM6.out _ hbZ).2.2).mono ?_); rintro e w9 ⟨rfl, hb9⟩)
            | fail)
          go_ret
          exact ⟨rfl, bt HBL.out (bt (HM6.out _ hbZ).2.2 hb9)⟩
end Go.Proofs.YtalmimmcfjolkaaDoor.rng
