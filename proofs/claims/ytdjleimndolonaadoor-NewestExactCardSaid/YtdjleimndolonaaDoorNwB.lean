/-
  Which reading's anchor is picked, by the program. Conditions: 'ValidOk', 'CloneOk', 'Tabs' as package label's contracts ask (proved apart).
-/
import Derived.Test.YtdjleimndolonaaDoorNwA
import Derived.Test.YtdjleimndolonaaDoorNwP
import Derived.Deep.CutRange
namespace Go.Proofs.YtdjleimndolonaaDoor.nwt
open Go.RowKit Go.Lib
open Go.Proofs.YtdjleimndolonaaDoor.gmt (Ok check_ok check_no anchor_at Told)
open Go.Proofs.YtdjleimndolonaaDoor.lbl (ValidOk Tabs)
open Go.Proofs.YtdjleimndolonaaDoor.anc (bl kal kst ks bm ka Anc noAnc AV noAV noAV_own noAV_d encA RdQ g5_new sev_new ac_new below7 OwnH AC Sev ownH_nil)

set_option maxRecDepth 100000 in
set_option maxHeartbeats 8000000 in
theorem npick_geo (z d s l a : Int) (A : Option Addr) (n c : Nat) (w : World) (ho : ¬ Ok z d s l a) :
    Calls Tryd.prog 11 #[.agg #[.int .i64 z, .int .i64 d, .int .i64 s, .int .i64 l, .int .i64 a], .slice A n c] w fun e' w' => PickR w.heap.size noAnc 0 1 e' w' ∧ Below w.heap.size w w' := by
  have cG := fun W => check_no z d s l a W ho
  have s1 : (w.alloc (.cells #[.int .i64 z, .int .i64 d, .int .i64 s, .int .i64 l, .int .i64 a] 23)).heap.size = w.heap.size + 1 := by simp
  have GG := (g5_new w z d s l a).keep (bl (w.alloc (.cells #[.int .i64 z, .int .i64 d, .int .i64 s, .int .i64 l, .int .i64 a] 23)) (.cells #[.int .i64 0, .int .i64 0, .int .i64 0, .int .i64 0, .int .i64 0, .string ⟨#[]⟩, .slice none 0 0] 31)) (by omega)
  have P := sev_new (w.alloc (.cells #[.int .i64 z, .int .i64 d, .int .i64 s, .int .i64 l, .int .i64 a] 23)) (.int .i64 0) (.int .i64 0) (.int .i64 0) (.int .i64 0) (.int .i64 0) (.string ⟨#[]⟩) (.slice none 0 0) 31
  rw [s1] at P
  have hb0 := kal (bl w (.cells #[.int .i64 z, .int .i64 d, .int .i64 s, .int .i64 l, .int .i64 a] 23)) (.cells #[.int .i64 0, .int .i64 0, .int .i64 0, .int .i64 0, .int .i64 0, .string ⟨#[]⟩, .slice none 0 0] 31)
  have l2 : ((w.alloc (.cells #[.int .i64 z, .int .i64 d, .int .i64 s, .int .i64 l, .int .i64 a] 23)).alloc (.cells #[.int .i64 0, .int .i64 0, .int .i64 0, .int .i64 0, .int .i64 0, .string ⟨#[]⟩, .slice none 0 0] 31)).heap.size = w.heap.size + 2 := by simp
  clear s1
  go_enter Tryd.func11, Tryd.ntmps11
  go_upto_region 1 with fail
  generalize (w.alloc (.cells #[.int .i64 z, .int .i64 d, .int .i64 s, .int .i64 l, .int .i64 a] 23)).alloc (.cells #[.int .i64 0, .int .i64 0, .int .i64 0, .int .i64 0, .int .i64 0, .string ⟨#[]⟩, .slice none 0 0] 31) = w0 at *
  obtain ⟨g0, g1, g2, g3, g4⟩ := id GG
  go_upto_region 2 with (go_at_call 30; (with_reducible refine (cG _).mono ?_); rintro e w1 ⟨rfl, hb1⟩)
  replace GG := GG.keep hb1 (by omega)
  replace P := P.keep hb1 (by omega)
  replace hb0 := bt hb0 hb1
  have lz : w.heap.size + 2 ≤ w1.heap.size := by have := hb1.size; omega
  clear l2 hb1 g0 g1 g2 g3 g4
  obtain ⟨g0, g1, g2, g3, g4⟩ := id GG
  obtain ⟨z0, z1, z2, z3, z4, z5, z6, f0, f1, f2, f3, f4, f5, f6⟩ := id P
  go_wp2_with fail
  have k7 := (((((((P.set0 (.int .i64 0)).set1 (.int .i64 0)).set2 (.int .i64 0)).set3 (.int .i64 0)).set4 (.int .i64 0)).set5 (.string ⟨#[]⟩)).set6 (.slice none 0 0))
  exact bodyPost_ret (v := .tuple #[.agg #[.int .i64 0, .int .i64 0, .int .i64 0, .int .i64 0, .int .i64 0, .string ⟨#[]⟩, .slice none 0 0], .int .i64 0, .int .i64 1]) (by simp [results, Tryd.results11, go_sem, k7.c0, k7.c1, k7.c2, k7.c3, k7.c4, k7.c5, k7.c6]) rfl ⟨⟨noAV, rfl, rfl, noAV_own _ _⟩, below7 hb0 (by omega)⟩

set_option maxRecDepth 100000 in
set_option maxHeartbeats 8000000 in
theorem npick_len (z d s l a : Int) (A : Option Addr) (n c : Nat) (w : World) (ho : Ok z d s l a) (hna : (n : Int) ≠ a) :
    Calls Tryd.prog 11 #[.agg #[.int .i64 z, .int .i64 d, .int .i64 s, .int .i64 l, .int .i64 a], .slice A n c] w fun e' w' => PickR w.heap.size noAnc 0 2 e' w' ∧ Below w.heap.size w w' := by
  have cG := fun W => check_ok z d s l a W ho
  have hn1 : ((n : Int) != a) = true := bne_iff_ne.2 hna
  have s1 : (w.alloc (.cells #[.int .i64 z, .int .i64 d, .int .i64 s, .int .i64 l, .int .i64 a] 23)).heap.size = w.heap.size + 1 := by simp
  have GG := (g5_new w z d s l a).keep (bl (w.alloc (.cells #[.int .i64 z, .int .i64 d, .int .i64 s, .int .i64 l, .int .i64 a] 23)) (.cells #[.int .i64 0, .int .i64 0, .int .i64 0, .int .i64 0, .int .i64 0, .string ⟨#[]⟩, .slice none 0 0] 31)) (by omega)
  have P := sev_new (w.alloc (.cells #[.int .i64 z, .int .i64 d, .int .i64 s, .int .i64 l, .int .i64 a] 23)) (.int .i64 0) (.int .i64 0) (.int .i64 0) (.int .i64 0) (.int .i64 0) (.string ⟨#[]⟩) (.slice none 0 0) 31
  rw [s1] at P
  have hb0 := kal (bl w (.cells #[.int .i64 z, .int .i64 d, .int .i64 s, .int .i64 l, .int .i64 a] 23)) (.cells #[.int .i64 0, .int .i64 0, .int .i64 0, .int .i64 0, .int .i64 0, .string ⟨#[]⟩, .slice none 0 0] 31)
  have l2 : ((w.alloc (.cells #[.int .i64 z, .int .i64 d, .int .i64 s, .int .i64 l, .int .i64 a] 23)).alloc (.cells #[.int .i64 0, .int .i64 0, .int .i64 0, .int .i64 0, .int .i64 0, .string ⟨#[]⟩, .slice none 0 0] 31)).heap.size = w.heap.size + 2 := by simp
  clear s1
  go_enter Tryd.func11, Tryd.ntmps11
  go_upto_region 1 with fail
  generalize (w.alloc (.cells #[.int .i64 z, .int .i64 d, .int .i64 s, .int .i64 l, .int .i64 a] 23)).alloc (.cells #[.int .i64 0, .int .i64 0, .int .i64 0, .int .i64 0, .int .i64 0, .string ⟨#[]⟩, .slice none 0 0] 31) = w0 at *
  obtain ⟨g0, g1, g2, g3, g4⟩ := id GG
  go_upto_region 2 with (go_at_call 30; (with_reducible refine (cG _).mono ?_); rintro e w1 ⟨rfl, hb1⟩)
  replace GG := GG.keep hb1 (by omega)
  replace P := P.keep hb1 (by omega)
  replace hb0 := bt hb0 hb1
  have lz : w.heap.size + 2 ≤ w1.heap.size := by have := hb1.size; omega
  clear l2 hb1 g0 g1 g2 g3 g4
  obtain ⟨g0, g1, g2, g3, g4⟩ := id GG
  obtain ⟨z0, z1, z2, z3, z4, z5, z6, f0, f1, f2, f3, f4, f5, f6⟩ := id P
  go_wp2_with fail
  have k7 := (((((((P.set0 (.int .i64 0)).set1 (.int .i64 0)).set2 (.int .i64 0)).set3 (.int .i64 0)).set4 (.int .i64 0)).set5 (.string ⟨#[]⟩)).set6 (.slice none 0 0))
  exact bodyPost_ret (v := .tuple #[.agg #[.int .i64 0, .int .i64 0, .int .i64 0, .int .i64 0, .int .i64 0, .string ⟨#[]⟩, .slice none 0 0], .int .i64 0, .int .i64 2]) (by simp [results, Tryd.results11, go_sem, k7.c0, k7.c1, k7.c2, k7.c3, k7.c4, k7.c5, k7.c6]) rfl ⟨⟨noAV, rfl, rfl, noAV_own _ _⟩, below7 hb0 (by omega)⟩

set_option maxRecDepth 100000 in
set_option maxHeartbeats 8000000 in
theorem npick_any (hV : ValidOk) (z d s l a : Int) (A : Option Addr) (n c : Nat) (rs : List GotR) (w : World) (hT : Tabs w) (ho : Ok z d s l a) (hln : rs.length = n) (hna : (n : Int) = a) (hA : SlV w w.heap.size A (gvs rs)) (hR : GIn w w.heap.size rs) :
    Calls Tryd.prog 11 #[.agg #[.int .i64 z, .int .i64 d, .int .i64 s, .int .i64 l, .int .i64 a], .slice A n c] w fun e' w' => PickR w.heap.size (ancOf (newN (sayAt z d s l (gds rs)) n)) (idxOf (newN (sayAt z d s l (gds rs)) n)) (errOf (newN (sayAt z d s l (gds rs)) n)) e' w' ∧ Below w.heap.size w w' := by
  obtain ⟨f, hf⟩ : ∃ f, f = sayAt z d s l (gds rs) := ⟨_, rfl⟩
  rw [← hf]
  have cG := fun W => check_ok z d s l a W ho
  have hn1 : ((n : Int) != a) = false := by rw [hna]; exact bne_self_eq_false _
  have HF0 := Lib.hid hf
  have HO := Lib.hid ho
  have HT := Lib.hid hT
  have HNA := Lib.hid hna
  have hn3 : n ≤ 1048576 := by have := ho.2.2.2.2; omega
  clear hf ho hT hna
  have s1 : (w.alloc (.cells #[.int .i64 z, .int .i64 d, .int .i64 s, .int .i64 l, .int .i64 a] 23)).heap.size = w.heap.size + 1 := by simp
  have GG := (g5_new w z d s l a).keep (bl (w.alloc (.cells #[.int .i64 z, .int .i64 d, .int .i64 s, .int .i64 l, .int .i64 a] 23)) (.cells #[.int .i64 0, .int .i64 0, .int .i64 0, .int .i64 0, .int .i64 0, .string ⟨#[]⟩, .slice none 0 0] 31)) (by omega)
  have P := sev_new (w.alloc (.cells #[.int .i64 z, .int .i64 d, .int .i64 s, .int .i64 l, .int .i64 a] 23)) (.int .i64 0) (.int .i64 0) (.int .i64 0) (.int .i64 0) (.int .i64 0) (.string ⟨#[]⟩) (.slice none 0 0) 31
  rw [s1] at P
  have hb0 := kal (bl w (.cells #[.int .i64 z, .int .i64 d, .int .i64 s, .int .i64 l, .int .i64 a] 23)) (.cells #[.int .i64 0, .int .i64 0, .int .i64 0, .int .i64 0, .int .i64 0, .string ⟨#[]⟩, .slice none 0 0] 31)
  have l2 : ((w.alloc (.cells #[.int .i64 z, .int .i64 d, .int .i64 s, .int .i64 l, .int .i64 a] 23)).alloc (.cells #[.int .i64 0, .int .i64 0, .int .i64 0, .int .i64 0, .int .i64 0, .string ⟨#[]⟩, .slice none 0 0] 31)).heap.size = w.heap.size + 2 := by simp
  clear s1
  go_enter Tryd.func11, Tryd.ntmps11
  go_upto_region 1 with fail
  generalize (w.alloc (.cells #[.int .i64 z, .int .i64 d, .int .i64 s, .int .i64 l, .int .i64 a] 23)).alloc (.cells #[.int .i64 0, .int .i64 0, .int .i64 0, .int .i64 0, .int .i64 0, .string ⟨#[]⟩, .slice none 0 0] 31) = w0 at *
  obtain ⟨g0, g1, g2, g3, g4⟩ := id GG
  go_upto_region 2 with (go_at_call 30; (with_reducible refine (cG _).mono ?_); rintro e w1 ⟨rfl, hb1⟩)
  replace GG := GG.keep hb1 (by omega)
  replace P := P.keep hb1 (by omega)
  replace hb0 := bt hb0 hb1
  have lz : w.heap.size + 2 ≤ w1.heap.size := by have := hb1.size; omega
  clear l2 hb1 g0 g1 g2 g3 g4
  obtain ⟨g0, g1, g2, g3, g4⟩ := id GG
  go_upto_region 6 with fail
  have Q := P
  clear g0 g1 g2 g3 g4
  go_wp2_with fail
  go_loopw [5, 8, 29] (fun at' fd i w' => ∃ (k : Nat) (q : AV), k ≤ n ∧ i = .int .i64 k ∧ fd = .bool (newN f k).isSome ∧ at' = .int .i64 (idxOf (newN f k)) ∧ q.d = ancOf (newN f k) ∧ Sev w' (w.heap.size + 1) (.int .i64 q.gen) (.int .i64 q.ep) (.int .i64 q.pos) (.int .i64 q.seq) (.int .i64 q.last) (.string q.lab) (.slice q.HA q.hs.length q.hc) ∧ OwnH w' (w.heap.size + 2) (.slice q.HA q.hs.length q.hc) q.hs ∧ Below (w.heap.size + 1) w1 w') (fun _ _ i _ => n - (RowKit.intOf i).toNat)
  case atStart => exact ⟨0, noAV, Nat.zero_le _, rfl, rfl, rfl, rfl, Q, ownH_nil _ _, Below.refl _ _⟩
  case round =>
    clear Q
    obtain ⟨w5, rfl⟩ : ∃ x, x = wr := ⟨wr, rfl⟩
    obtain ⟨k, q, hk, rfl, rfl, rfl, hqd, Q5, hq5, hb5⟩ := hrel
    have l5 := hb5.size
    have hb05 := hb0.trans (hb5.mono (by omega))
    obtain ⟨t, ht⟩ : ∃ t, t = idxOf (newN f k) := ⟨_, rfl⟩
    obtain ⟨fd, hfd⟩ : ∃ t, t = (newN f k).isSome := ⟨_, rfl⟩
    rw [← ht, ← hfd]
    have HTT := Lib.hid ht
    have HFD := Lib.hid hfd
    clear ht hfd
    by_cases hlt : k < n
    · obtain ⟨b1, off, x, rfl, hb1, r0, r1, m1, -, -, e1⟩ := got_at (hA.below hb05) (hR.below hb05) (show k < rs.length by omega)
      have i1 : (k : Int) < (n : Int) := by omega
      have hfk : f k = sayO z d s l x.e x.l k := by rw [HF0.out]; exact sayAt_get e1
      have hxG := bl w5 (.cells #[.int .i64 x.e, .slice x.A x.l.length x.c] 28)
      have XX : (w5.alloc (.cells #[.int .i64 x.e, .slice x.A x.l.length x.c] 28)).cell? ⟨w5.heap.size, 0, none⟩ = some (.int .i64 x.e) ∧ (w5.alloc (.cells #[.int .i64 x.e, .slice x.A x.l.length x.c] 28)).cell? ⟨w5.heap.size, 1, none⟩ = some (.slice x.A x.l.length x.c) := by
        constructor <;> (rw [cell_of_row _ _ _ _ _ _ (heap_alloc_new w5 _)]; rfl)
      have lX : w5.heap.size < (w5.alloc (.cells #[.int .i64 x.e, .slice x.A x.l.length x.c] 28)).heap.size := by simp
      have HS := Lib.hid (show ∀ W, Below w5.heap.size w5 W → Calls Tryd.prog 10 #[.agg #[.int .i64 z, .int .i64 d, .int .i64 s, .int .i64 l, .int .i64 a], .agg #[.int .i64 x.e, .slice x.A x.l.length x.c], .int .i64 k] W fun e w' => RdQ W.heap.size ((f k).getD noAnc) (f k).isSome e w' ∧ Below W.heap.size W w' from fun W hW => by
        rw [hfk]
        exact nsays_any hV z d s l a x.e k x.A x.l.length x.c x.l W (HT.out.next (bt hb05 hW)) HO.out rfl m1.2.1 m1.2.2 ((m1.1.below (hW.mono (by omega))).more (by have := hW.size; omega)))
      have HA2 := Lib.hid (show ∀ W, Calls Tryd.prog 31 #[.agg #[.int .i64 z, .int .i64 d, .int .i64 s, .int .i64 l, .int .i64 a], .int .i64 k] W fun r w' => r = .returned (.tuple #[.int .i64 k, .int .i64 0]) ∧ Below W.heap.size W w' from fun W => anchor_at z d s l a k k 0 W HO.out ⟨fun _ => ⟨rfl, rfl⟩, fun h => absurd ⟨by omega, by have := HNA.out; omega⟩ h⟩)
      have HQ5 := Lib.hid hq5
      have HQD := Lib.hid hqd
      obtain ⟨o5, ho5⟩ : ∃ u, u = f k := ⟨_, rfl⟩
      have HO5 := Lib.hid ho5
      rw [← ho5] at HS
      have GG5 := (GG.keep hb5 (by omega)).keep hxG (by omega)
      have Q6 := Q5.keep hxG (by omega)
      have HB5 := Lib.hid hb5
      clear hfk m1 hA hR hq5 hqd e1 hln ho5 Q5 hb5
      go_upto_region 10 with fail
      obtain ⟨gx, hgx⟩ : ∃ g, g = w5.heap.size := ⟨_, rfl⟩
      rw [← hgx] at XX lX ⊢
      generalize hw6 : w5.alloc (.cells #[.int .i64 x.e, .slice x.A x.l.length x.c] 28) = w6 at *
      clear hw6
      have l6 : w.heap.size + 2 < w6.heap.size := by omega
      clear hgx
      obtain ⟨g0, g1, g2, g3, g4⟩ := id GG5
      go_upto_region 13 with (go_at_call 31; (with_reducible refine (HA2.out _).mono ?_); rintro e w7 ⟨rfl, hb7⟩)
      replace XX := And.intro (kst hb7 lX XX.1) (kst hb7 lX XX.2)
      replace GG5 := GG5.keep hb7 (by omega)
      replace Q6 := Q6.keep hb7 (by omega)
      replace lX := Nat.lt_of_lt_of_le lX hb7.size
      replace l6 := Nat.lt_of_lt_of_le l6 hb7.size
      replace hxG := bt hxG hb7
      clear g0 g1 g2 g3 g4 r0 r1 hb7 HA2
      obtain ⟨g0, g1, g2, g3, g4⟩ := id GG5
      obtain ⟨x0, x1⟩ := id XX
      go_upto_region 14 with (go_at_call 10; (with_reducible refine (HS.out _ hxG).mono ?_); rintro e w8 ⟨⟨y, hey, hyd, hyo⟩, hb8⟩; rw [AV.v] at hey; subst hey)
      have hxY := bl w8 (.cells #[.int .i64 y.gen, .int .i64 y.ep, .int .i64 y.pos, .int .i64 y.seq, .int .i64 y.last, .string y.lab, .slice y.HA y.hs.length y.hc] 31)
      have FY := ac_new w8 y
      replace Q6 := (Q6.keep hb8 (by omega)).keep hxY (by have := hb8.size; omega)
      replace hxG := bt (bt hxG hb8) hxY
      have hyo2 := OwnH.below hyo hxY
      have hle8 := hb8.size
      clear g0 g1 g2 g3 g4 x0 x1 XX GG5 HS hb8 hyo hxY
      generalize hw9 : w8.alloc (.cells #[.int .i64 y.gen, .int .i64 y.ep, .int .i64 y.pos, .int .i64 y.seq, .int .i64 y.last, .string y.lab, .slice y.HA y.hs.length y.hc] 31) = w9 at *
      clear hw9
      have hb06 := bm HB5.out (by omega) hxG
      have HQ6 : Hid (OwnH w9 _ _ _) := Lib.hid (OwnH.below HQ5.out hxG)
      have HYO : Hid (OwnH w9 _ _ _) := Lib.hid (OwnH.less hyo2 (show w.heap.size + 2 ≤ w7.heap.size by omega))
      clear hyo2 HQ5
      have hgz : w.heap.size + 1 < w.heap.size + 2 := Nat.lt_succ_self _
      cases o5 with
      | none =>
        have hN : newN f (k + 1) = newN f k := by
          show stepN (newN f k) k (f k) = _
          rw [← HO5.out]
          rfl
        have HN := Lib.hid hN
        clear hN hyd
        simp only [Option.isSome_none]
        go_wp2_with fail
        go_roundw
        case rel => exact ⟨k + 1, q, by omega, by go_num, by rw [HN.out, HFD.out], by rw [HN.out, HTT.out], by rw [HN.out]; exact HQD.out, Q6, HQ6.out, hb06⟩
        case measure => simp [RowKit.intOf]; omega
      | some X =>
        have hyX : y.d = X := hyd
        have HYX := Lib.hid hyX
        clear hyd hyX
        obtain ⟨y0, y1, y2, y3, y4, y5, y6⟩ := id FY
        obtain ⟨q0, q1, q2, q3, q4, q5, q6, f0, f1, f2, f3, f4, f5, f6⟩ := id Q6
        simp only [Option.isSome_some]
        rcases hNk : newN f k with _ | ⟨C, j⟩
        · have hN : newN f (k + 1) = some (X, k) := by
            show stepN (newN f k) k (f k) = _
            rw [← HO5.out, hNk]
            rfl
          obtain rfl : fd = false := by rw [HFD.out, hNk]; rfl
          have HN := Lib.hid hN
          clear hN hNk HFD HTT
          go_wp2_with fail
          have k7 := (((((((Q6.set0 (.int .i64 y.gen)).set1 (.int .i64 y.ep)).set2 (.int .i64 y.pos)).set3 (.int .i64 y.seq)).set4 (.int .i64 y.last)).set5 (.string y.lab)).set6 (.slice y.HA y.hs.length y.hc))
          have h7 := (OwnH.cell_set (o := 6) (OwnH.cell_set (o := 5) (OwnH.cell_set (o := 4) (OwnH.cell_set (o := 3) (OwnH.cell_set (o := 2) (OwnH.cell_set (o := 1) (OwnH.cell_set (o := 0) HYO.out hgz (.int .i64 y.gen)) hgz (.int .i64 y.ep)) hgz (.int .i64 y.pos)) hgz (.int .i64 y.seq)) hgz (.int .i64 y.last)) hgz (.string y.lab)) hgz (.slice y.HA y.hs.length y.hc))
          have b7 := below7 (v0 := .int .i64 y.gen) (v1 := .int .i64 y.ep) (v2 := .int .i64 y.pos) (v3 := .int .i64 y.seq) (v4 := .int .i64 y.last) (v5 := .string y.lab) (v6 := .slice y.HA y.hs.length y.hc) hb06 (Nat.le_refl (w.heap.size + 1))
          have H7 : Hid (OwnH _ _ _ _) := Lib.hid h7
          clear h7
          go_roundw
          case rel => exact ⟨k + 1, y, by omega, by go_num, by rw [HN.out]; rfl, by rw [HN.out]; rfl, by rw [HN.out]; exact HYX.out, k7, H7.out, b7⟩
          case measure => simp [RowKit.intOf]; omega

        · obtain rfl : fd = true := by rw [HFD.out, hNk]; rfl
          have htj : t = (j : Int) := by rw [HTT.out, hNk]; rfl
          have hqC : q.gen = C.gen := by
            have := HQD.out
            rw [hNk] at this
            exact congrArg Anc.gen this
          have hyg : y.gen = X.gen := congrArg Anc.gen HYX.out
          by_cases hlt2 : C.gen < X.gen
          · have hN : newN f (k + 1) = some (X, k) := by
              show stepN (newN f k) k (f k) = _
              rw [← HO5.out, hNk]
              exact if_pos hlt2
            have j2 : q.gen < y.gen := by rw [hqC, hyg]; exact hlt2
            have HN := Lib.hid hN
            clear hN hNk hqC hyg hlt2 HFD HTT htj
            go_wp2_with fail
            have k7 := (((((((Q6.set0 (.int .i64 y.gen)).set1 (.int .i64 y.ep)).set2 (.int .i64 y.pos)).set3 (.int .i64 y.seq)).set4 (.int .i64 y.last)).set5 (.string y.lab)).set6 (.slice y.HA y.hs.length y.hc))
            have h7 := (OwnH.cell_set (o := 6) (OwnH.cell_set (o := 5) (OwnH.cell_set (o := 4) (OwnH.cell_set (o := 3) (OwnH.cell_set (o := 2) (OwnH.cell_set (o := 1) (OwnH.cell_set (o := 0) HYO.out hgz (.int .i64 y.gen)) hgz (.int .i64 y.ep)) hgz (.int .i64 y.pos)) hgz (.int .i64 y.seq)) hgz (.int .i64 y.last)) hgz (.string y.lab)) hgz (.slice y.HA y.hs.length y.hc))
            have b7 := below7 (v0 := .int .i64 y.gen) (v1 := .int .i64 y.ep) (v2 := .int .i64 y.pos) (v3 := .int .i64 y.seq) (v4 := .int .i64 y.last) (v5 := .string y.lab) (v6 := .slice y.HA y.hs.length y.hc) hb06 (Nat.le_refl (w.heap.size + 1))
            have H7 : Hid (OwnH _ _ _ _) := Lib.hid h7
            clear h7
            go_roundw
            case rel => exact ⟨k + 1, y, by omega, by go_num, by rw [HN.out]; rfl, by rw [HN.out]; rfl, by rw [HN.out]; exact HYX.out, k7, H7.out, b7⟩
            case measure => simp [RowKit.intOf]; omega

          · have hN : newN f (k + 1) = newN f k := by
              show stepN (newN f k) k (f k) = _
              rw [← HO5.out, hNk]
              exact if_neg hlt2
            have j2 : ¬ q.gen < y.gen := by rw [hqC, hyg]; exact hlt2
            have HN := Lib.hid hN
            clear hN hNk hqC hyg hlt2 htj
            go_wp2_with fail
            go_roundw
            case rel => exact ⟨k + 1, q, by omega, by go_num, by rw [HN.out, ← HFD.out], by rw [HN.out, HTT.out], by rw [HN.out]; exact HQD.out, Q6, HQ6.out, hb06⟩
            case measure => simp [RowKit.intOf]; omega
    · obtain rfl : k = n := by omega
      have i1 : ¬ (k : Int) < (k : Int) := by omega
      obtain ⟨z0, z1, z2, z3, z4, z5, z6, f0, f1, f2, f3, f4, f5, f6⟩ := id Q5
      have HQ5 : Hid (OwnH w5 _ _ _) := Lib.hid hq5
      have HQD := Lib.hid hqd
      clear hq5 hqd hA hR
      rcases hNk : newN f k with _ | ⟨C, j⟩
      · obtain rfl : fd = false := by rw [HFD.out, hNk]; rfl
        have HNK := Lib.hid hNk
        clear hNk
        go_wp2_with fail
        have k7 := (((((((Q5.set0 (.int .i64 0)).set1 (.int .i64 0)).set2 (.int .i64 0)).set3 (.int .i64 0)).set4 (.int .i64 0)).set5 (.string ⟨#[]⟩)).set6 (.slice none 0 0))
        exact bodyPost_ret (v := .tuple #[.agg #[.int .i64 0, .int .i64 0, .int .i64 0, .int .i64 0, .int .i64 0, .string ⟨#[]⟩, .slice none 0 0], .int .i64 0, .int .i64 11]) (by simp [results, Tryd.results11, go_sem, k7.c0, k7.c1, k7.c2, k7.c3, k7.c4, k7.c5, k7.c6]) rfl ⟨⟨noAV, by rw [HNK.out]; rfl, by rw [HNK.out]; rfl, noAV_own _ _⟩, below7 hb05 (by omega)⟩

      · obtain rfl : fd = true := by rw [HFD.out, hNk]; rfl
        have htj : t = (j : Int) := by rw [HTT.out, hNk]; rfl
        have hqd2 : q.d = C := by rw [HQD.out, hNk]; rfl
        have HQD2 := Lib.hid hqd2
        have HTJ := Lib.hid htj
        have HNK := Lib.hid hNk
        clear hNk htj hqd2
        go_wp2_with fail
        have k7 := (((((((Q5.set0 (.int .i64 q.gen)).set1 (.int .i64 q.ep)).set2 (.int .i64 q.pos)).set3 (.int .i64 q.seq)).set4 (.int .i64 q.last)).set5 (.string q.lab)).set6 (.slice q.HA q.hs.length q.hc))
        have hgz : w.heap.size + 1 < w.heap.size + 2 := by omega
        have h7 := (OwnH.cell_set (o := 6) (OwnH.cell_set (o := 5) (OwnH.cell_set (o := 4) (OwnH.cell_set (o := 3) (OwnH.cell_set (o := 2) (OwnH.cell_set (o := 1) (OwnH.cell_set (o := 0) HQ5.out hgz (.int .i64 q.gen)) hgz (.int .i64 q.ep)) hgz (.int .i64 q.pos)) hgz (.int .i64 q.seq)) hgz (.int .i64 q.last)) hgz (.string q.lab)) hgz (.slice q.HA q.hs.length q.hc))
        exact bodyPost_ret (v := .tuple #[.agg #[.int .i64 q.gen, .int .i64 q.ep, .int .i64 q.pos, .int .i64 q.seq, .int .i64 q.last, .string q.lab, .slice q.HA q.hs.length q.hc], .int .i64 t, .int .i64 0]) (by simp [results, Tryd.results11, go_sem, k7.c0, k7.c1, k7.c2, k7.c3, k7.c4, k7.c5, k7.c6]) rfl ⟨⟨q, by rw [HNK.out, HTJ.out]; rfl, by rw [HNK.out]; exact HQD2.out, OwnH.less h7 (by omega)⟩, below7 hb05 (by omega)⟩
end Go.Proofs.YtdjleimndolonaaDoor.nwt
