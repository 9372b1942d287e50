/-
  The document's own answer whether an anchor of a right geometry is right. Conditions: rows shorter than 2^20; what is told of its label is given.
  Anchors as bytes, and back: plain mathematics. No condition beyond each law's own.
-/
import Derived.Test.YtbfdpibjicjagaaGreatDoorGAn
import Derived.Test.YtbfdpibjicjagaaGreatDoorGGm
import Derived.Deep.CutRange
import Derived.Test.YtbfdpibjicjagaaGreatDoorLblD
import Derived.Test.YtbfdpibjicjagaaGreatDoorGPk
set_option maxHeartbeats 8000000
set_option maxRecDepth 100000
namespace Go.Proofs.YtbfdpibjicjagaaGreatDoor.anc
open Go.RowKit Go.Lib
open Go.Proofs.YtbfdpibjicjagaaGreatDoor.gmt (Ok five_new)
def HomeOk (d s : Int) (h : Hom) : Prop :=
 ((h.ps.length : Int) = d + 1) ∧ (d + 1 ≤ h.nx ∧ h.nx ≤ d + 1 + s) ∧ (0 ≤ h.rt ∧ h.rt ≤ 4294967295) ∧ ∀ i (hi : i < h.ps.length), (0 ≤ h.ps[i] ∧ h.ps[i] ≤ h.nx - 1) ∧ ∀ k (hk : k < i), h.ps[k] ≠ h.ps[i]
def AncOk (z d s l E : Int) (a : Anc) : Prop :=
 (0 ≤ a.gen ∧ a.gen ≤ 4294967295) ∧ (0 ≤ a.ep ∧ a.ep ≤ 4294967295) ∧ (1 ≤ a.seq ∧ a.seq ≤ 4294967295) ∧ (0 ≤ a.last ∧ a.last ≤ 4294967295) ∧ a.seq - 1 ≤ a.last ∧ (0 ≤ a.pos ∧ a.pos ≤ l - 1) ∧ E = 0 ∧ ((a.hs.length : Int) = z) ∧ ∀ h ∈ a.hs, HomeOk d s h
theorem rin8_at (x : Bool) (n lo hi : Int) (w : World) (hx : x = true ↔ lo ≤ n ∧ n ≤ hi) :
  Calls Tryz.prog 33 #[.int .i64 n, .int .i64 lo, .int .i64 hi] w fun e w' => e = .returned (.bool x) ∧ w = w' := by
 by_cases h1 : lo ≤ n
 ·by_cases h2 : n ≤ hi
  ·obtain rfl : x = true := hx.2 ⟨h1, h2⟩
   clear hx
   go_enter Tryz.func33, Tryz.ntmps33
   go_wp2
   go_ret
   exact ⟨rfl, rfl⟩
  ·obtain rfl : x = false := by
    cases x with
    | false => rfl
    | true => exact absurd (hx.1 rfl).2 h2
   clear hx
   go_enter Tryz.func33, Tryz.ntmps33
   go_wp2
   go_ret
   exact ⟨rfl, rfl⟩
 ·obtain rfl : x = false := by
   cases x with
   | false => rfl
   | true => exact absurd (hx.1 rfl).1 h1
  clear hx
  go_enter Tryz.func33, Tryz.ntmps33
  go_wp2
  go_ret
  exact ⟨rfl, rfl⟩
theorem right_any (c : Bool) (z d s l a E : Int) (x : AV) (w : World) (ho : Ok z d s l a) (hx : x.In w w.heap.size) (hn : x.hs.length ≤ 1048576) (ht : HShort 1048576 x.hs)
  (cL : ∀ W, Calls Tryz.prog 34 #[.string x.lab] W fun e w' => e = .returned (.int .i64 E) ∧ Below W.heap.size W w') (hc : c = true ↔ AncOk z d s l E x.d) :
  Calls Tryz.prog 16 #[.agg #[.int .i64 z, .int .i64 d, .int .i64 s, .int .i64 l, .int .i64 a], x.v] w fun e w' => e = .returned (.bool c) ∧ Below w.heap.size w w' := by
 unfold AV.v
 obtain ⟨o1, o2, o3, o4, o5⟩ := ho
 have hb0 := kal (bl w (.cells #[.int .i64 z, .int .i64 d, .int .i64 s, .int .i64 l, .int .i64 a] 23)) (.cells #[.int .i64 x.gen, .int .i64 x.ep, .int .i64 x.pos, .int .i64 x.seq, .int .i64 x.last, .string x.lab, .slice x.HA x.hs.length x.hc] 26)
 obtain ⟨g0, g1, g2, g3, g4⟩ := five_new w z d s l a
 have hbX := bl (w.alloc (.cells #[.int .i64 z, .int .i64 d, .int .i64 s, .int .i64 l, .int .i64 a] 23)) (.cells #[.int .i64 x.gen, .int .i64 x.ep, .int .i64 x.pos, .int .i64 x.seq, .int .i64 x.last, .string x.lab, .slice x.HA x.hs.length x.hc] 26)
 have lg : w.heap.size < (w.alloc (.cells #[.int .i64 z, .int .i64 d, .int .i64 s, .int .i64 l, .int .i64 a] 23)).heap.size := by simp
 replace g0 := kst hbX lg g0
 replace g1 := kst hbX lg g1
 replace g2 := kst hbX lg g2
 replace g3 := kst hbX lg g3
 obtain ⟨-, -, -, -, -, -, k6⟩ := ac_new (w.alloc (.cells #[.int .i64 z, .int .i64 d, .int .i64 s, .int .i64 l, .int .i64 a] 23)) x
 rw [show (w.alloc (.cells #[.int .i64 z, .int .i64 d, .int .i64 s, .int .i64 l, .int .i64 a] 23)).heap.size = w.heap.size + 1 by simp] at k6
 have l1 : w.heap.size + 1 < ((w.alloc (.cells #[.int .i64 z, .int .i64 d, .int .i64 s, .int .i64 l, .int .i64 a] 23)).alloc (.cells #[.int .i64 x.gen, .int .i64 x.ep, .int .i64 x.pos, .int .i64 x.seq, .int .i64 x.last, .string x.lab, .slice x.HA x.hs.length x.hc] 26)).heap.size := by simp
 clear hbX lg g4
 by_cases h0 : 0 ≤ x.gen ∧ x.gen ≤ 4294967295
 ·skip
  by_cases h1 : 0 ≤ x.ep ∧ x.ep ≤ 4294967295
  ·skip
   by_cases h2 : 1 ≤ x.seq ∧ x.seq ≤ 4294967295
   ·skip
    by_cases h3 : 0 ≤ x.last ∧ x.last ≤ 4294967295
    ·skip
     by_cases h4 : x.seq - 1 ≤ x.last
     ·skip
      by_cases h5 : 0 ≤ x.pos ∧ x.pos ≤ l - 1
      ·skip
       by_cases h6 : E = 0
       ·skip
        by_cases h7 : (x.hs.length : Int) = z
        ·skip
         subst E
         have q7 : ((x.hs.length : Int) != z) = false := by rw [h7]; exact bne_self_eq_false _
         have c0 := fun W => rin8_at true x.gen 0 4294967295 W (iff_of_true rfl h0)
         have c1 := fun W => rin8_at true x.ep 0 4294967295 W (iff_of_true rfl h1)
         have c2 := fun W => rin8_at true x.seq 1 4294967295 W (iff_of_true rfl h2)
         have c3 := fun W => rin8_at true x.last 0 4294967295 W (iff_of_true rfl h3)
         have c5 := fun W => rin8_at true x.pos 0 (l - 1) W (iff_of_true rfl h5)
         have HC : Hid (c = true ↔ ∀ h ∈ hds x.hs, HomeOk d s h) := Lib.hid (hc.trans ⟨fun h => h.2.2.2.2.2.2.2.2, fun h => ⟨h0, h1, h2, h3, h4, h5, rfl, (by show ((hds x.hs).length : Int) = z; rw [hds_length]; exact h7), h⟩⟩)
         replace h7 := Lib.hid h7
         clear hc
         go_enter Tryz.func16, Tryz.ntmps16
         go_wp2_with (first
          | (go_at_call 33; (with_reducible refine (c0 _).mono ?_); rintro e wi ⟨rfl, rfl⟩)
          | (go_at_call 33; (with_reducible refine (c1 _).mono ?_); rintro e wi ⟨rfl, rfl⟩)
          | (go_at_call 33; (with_reducible refine (c2 _).mono ?_); rintro e wi ⟨rfl, rfl⟩)
          | (go_at_call 33; (with_reducible refine (c3 _).mono ?_); rintro e wi ⟨rfl, rfl⟩)
          | (go_at_call 33; (with_reducible refine (c5 _).mono ?_); rintro e wi ⟨rfl, rfl⟩)
          | (go_at_call 34; (with_reducible refine (cL _).mono ?_); rintro e wL ⟨rfl, hbL⟩; replace g0 := kst hbL (by omega) g0; replace g1 := kst hbL (by omega) g1; replace g2 := kst hbL (by omega) g2; replace g3 := kst hbL (by omega) g3; replace k6 := kst hbL l1 k6; replace l1 := Nat.lt_of_lt_of_le l1 hbL.size))
         have hbL' := bt hb0 hbL
         replace l1 : w.heap.size + 1 < wL.heap.size := l1
         clear hb0 hbL cL q7 c0 c1 c2 c3 c5 h0 h1 h2 h3 h4 h5
         have HX := Lib.hid hx
         clear hx
         go_loopw [5] (fun i w' => ∃ k : Nat, k ≤ x.hs.length ∧ i = .int .i64 k ∧ (∀ h ∈ (hds x.hs).take k, HomeOk d s h) ∧ Below wL.heap.size wL w') (fun i _ => x.hs.length - (RowKit.intOf i).toNat)
         case atStart => exact ⟨0, by omega, rfl, (fun h hh => by simp at hh), Below.refl _ _⟩
         case round =>
          obtain ⟨w5, rfl⟩ : ∃ x, x = wr := ⟨wr, rfl⟩
          obtain ⟨k, hk, rfl, hs2, hbr⟩ := hrel
          have g1 := kst hbr (by omega) g1
          have g2 := kst hbr (by omega) g2
          have k6' := kst hbr l1 k6
          have hbw := bt hbL' hbr
          have lw := hbr.size
          by_cases hlt : k < x.hs.length
          ·have i1 : (k : Int) < (x.hs.length : Int) := by omega
           have hX := HX.out.next hbw
           obtain ⟨b1, off, u, e3, hb1, r0, r1, r2, m1, hu, -, e1⟩ := home_at hX.hh hX.hi hlt
           have m5 := ht _ hu
           rw [e3] at k6'
           have HT : Hid (HomeOk d s u.d → ∀ h ∈ (hds x.hs).take (k + 1), HomeOk d s h) := Lib.hid fun hh h hm => by
            rw [take_next e1] at hm
            rcases List.mem_append.1 hm with hm | hm
            ·exact hs2 h hm
            ·obtain rfl := List.mem_singleton.1 hm
             exact hh
           have HF : Hid (¬ HomeOk d s u.d → c = false) := Lib.hid fun hh => by
            cases c
            ·rfl
            ·exact absurd (HC.out.1 rfl u.d (List.mem_of_getElem? e1)) hh
           have hmx : u.ps.length ≤ maxLen := Nat.le_trans m1.2.1 m1.2.2
           have hcp := m1.2.1
           clear hs2 hX hu e1 e3
           go_upto_region 7 with fail
           have hbh := bl w5 (.cells #[.slice u.A u.ps.length u.c, .int .i64 u.nx, .int .i64 u.rt] 69)
           replace g1 := kst hbh (by omega) g1
           replace g2 := kst hbh (by omega) g2
           have lh : w5.heap.size < (w5.alloc (.cells #[.slice u.A u.ps.length u.c, .int .i64 u.nx, .int .i64 u.rt] 69)).heap.size := by simp
           have n0 : (w5.alloc (.cells #[.slice u.A u.ps.length u.c, .int .i64 u.nx, .int .i64 u.rt] 69)).cell? ⟨w5.heap.size, 0, none⟩ = some (.slice u.A u.ps.length u.c) := by rw [cell_of_row _ _ _ _ _ _ (heap_alloc_new w5 _)]; rfl
           have n1 : (w5.alloc (.cells #[.slice u.A u.ps.length u.c, .int .i64 u.nx, .int .i64 u.rt] 69)).cell? ⟨w5.heap.size, 1, none⟩ = some (.int .i64 u.nx) := by rw [cell_of_row _ _ _ _ _ _ (heap_alloc_new w5 _)]; rfl
           have n2 : (w5.alloc (.cells #[.slice u.A u.ps.length u.c, .int .i64 u.nx, .int .i64 u.rt] 69)).cell? ⟨w5.heap.size, 2, none⟩ = some (.int .i64 u.rt) := by rw [cell_of_row _ _ _ _ _ _ (heap_alloc_new w5 _)]; rfl
           have hbz := bt hbw hbh
           have hby := bt hbr hbh
           replace m1 := m1.next hbh
           clear hbh r0 r1 r2 k6' hb1
           generalize w5.alloc (.cells #[.slice u.A u.ps.length u.c, .int .i64 u.nx, .int .i64 u.rt] 69) = wh at *
           by_cases y0 : (u.ps.length : Int) = d + 1
           ·have z0 : ((u.ps.length : Int) != d + 1) = false := by rw [y0]; exact bne_self_eq_false _
            replace y0 := Lib.hid y0
            by_cases y1 : d + 1 ≤ u.nx ∧ u.nx ≤ d + 1 + s
            ·have p1 := fun W => rin8_at true u.nx (d + 1) (d + 1 + s) W (iff_of_true rfl y1)
             by_cases y2 : 0 ≤ u.rt ∧ u.rt ≤ 4294967295
             ·have p2 := fun W => rin8_at true u.rt 0 4294967295 W (iff_of_true rfl y2)
              go_wp2_with (first
               | (go_at_call 33; (with_reducible refine (p1 _).mono ?_); rintro e wi ⟨rfl, rfl⟩)
               | (go_at_call 33; (with_reducible refine (p2 _).mono ?_); rintro e wi ⟨rfl, rfl⟩))
              clear p1 p2 z0
              go_loopw [7] (fun i w' => ∃ q : Nat, q ≤ u.ps.length ∧ i = .int .i64 q ∧ (∀ i (hi : i < u.ps.length), i < q → (0 ≤ u.ps[i] ∧ u.ps[i] ≤ u.nx - 1) ∧ ∀ k (hk : k < i), u.ps[k] ≠ u.ps[i]) ∧ Below wh.heap.size wh w') (fun i _ => u.ps.length - (RowKit.intOf i).toNat)
              case atStart => exact ⟨0, by omega, rfl, (fun i _ h => by omega), Below.refl _ _⟩
              case round =>
               obtain ⟨wq, rfl⟩ : ∃ x, x = wr := ⟨wr, rfl⟩
               obtain ⟨q, hq, rfl, hq2, hbq⟩ := hrel
               replace n0 := kst hbq lh n0
               replace n1 := kst hbq lh n1
               by_cases hqt : q < u.ps.length
               ·obtain ⟨b3, off3, e5, hb3, hc3⟩ := (m1.next hbq).1 (by rw [ints_length]; omega)
                have s0 := hc3 q (by rw [ints_length]; omega)
                rw [ints_get] at s0
                rw [e5] at n0
                have j1 : (q : Int) < (u.ps.length : Int) := by omega
                by_cases y3 : 0 ≤ u.ps[q] ∧ u.ps[q] ≤ u.nx - 1
                ·have p3 := fun W => rin8_at true u.ps[q] 0 (u.nx - 1) W (iff_of_true rfl y3)
                 have HQ : Hid (∀ i (hi : i < u.ps.length), i < q → (0 ≤ u.ps[i] ∧ u.ps[i] ≤ u.nx - 1) ∧ ∀ k (hk : k < i), u.ps[k] ≠ u.ps[i]) := Lib.hid hq2
                 have Y3 := Lib.hid y3
                 have p4 : ∀ pq, pq = u.ps[q] → ∀ W, Calls Tryz.prog 33 #[.int .i64 pq, .int .i64 0, .int .i64 (u.nx - 1)] W fun e w' => e = .returned (.bool true) ∧ W = w' := fun pq hp W => by rw [hp]; exact p3 W
                 obtain ⟨pq, hpq⟩ : ∃ pq, pq = u.ps[q] := ⟨_, rfl⟩
                 replace p4 := p4 pq hpq
                 rw [← hpq] at s0
                 replace hpq := Lib.hid hpq
                 clear p3 hc3 hq2 y3
                 have p4q : ∀ n, Calls Tryz.prog 33 #[.int .i64 pq, .int .i64 0, .int .i64 (u.nx - 1)] (wq.drewN n) fun e w' => e = .returned (.bool true) ∧ ∃ m, w' = (wq.drewN n).drewN m := fun n => (p4 _).mono fun e w' h => ⟨h.1, 0, h.2.symm⟩
                 go_wp2_with fail
                 go_quiet ((go_at_call 33; with_reducible refine Calls.quiet_of (p4q _)))
                 clear p4 p4q
                 have bq := below_dn (Below.refl wq.heap.size wq) nq
                 have lq : w5.heap.size < wq.heap.size := Nat.lt_of_lt_of_le lh hbq.size
                 replace n0 := kst bq lq n0
                 replace n1 := kst bq lq n1
                 replace s0 := kst bq hb3 s0
                 have hb3' : b3 < (wq.drewN nq).heap.size := Nat.lt_of_lt_of_le hb3 bq.size
                 replace hbq := bt hbq bq
                 clear bq lq
                 generalize wq.drewN nq = wp at *
                 go_wp2_with fail
                 go_loopw [8] (fun i w' => ∃ t : Nat, t ≤ q ∧ i = .int .i64 t ∧ (∀ m (hm : m < t) (hm2 : m < u.ps.length), u.ps[m] ≠ u.ps[q]) ∧ Below wp.heap.size wp w') (fun i _ => q - (RowKit.intOf i).toNat)
                 case atStart => exact ⟨0, by omega, rfl, (fun i h => by omega), Below.refl _ _⟩
                 case round =>
                  obtain ⟨wt, rfl⟩ : ∃ x, x = wr := ⟨wr, rfl⟩
                  obtain ⟨t, htq, rfl, ht2, hbt⟩ := hrel
                  have lp : w5.heap.size < wp.heap.size := Nat.lt_of_lt_of_le lh hbq.size
                  replace n0 := kst hbt lp n0
                  replace s0 := kst hbt hb3' s0
                  by_cases htt : t < q
                  ·have j2 : (t : Int) < (q : Int) := by omega
                   have j3 : (t : Int) < (u.ps.length : Int) := by omega
                   obtain ⟨b4, off4, e6, hb4, hc4⟩ := (m1.next (bt hbq hbt)).1 (by rw [ints_length]; omega)
                   have s1 := hc4 t (by rw [ints_length]; omega)
                   rw [ints_get] at s1
                   obtain ⟨rfl, rfl⟩ : b4 = b3 ∧ off4 = off3 := by rw [e5] at e6; simpa [eq_comm] using e6
                   obtain ⟨pt, hpt⟩ : ∃ pt, pt = u.ps[t] := ⟨_, rfl⟩
                   rw [← hpt] at s1
                   replace hpt := Lib.hid hpt
                   have hfin := bt hbz (bt hbq hbt)
                   clear hc4 e6
                   by_cases he : pt = pq
                   ·have v1 : (pt == pq) = true := beq_iff_eq.2 he
                    have H : Hid (c = false) := Lib.hid (HF.out fun h => (h.2.2.2 q hqt).2 t htt (by show u.ps[t] = u.ps[q]; rw [← hpt.out, ← hpq.out, he]))
                    replace he := Lib.hid he
                    clear ht2
                    go_wp2_with fail
                    go_quiet (fail)
                    go_wp2_with fail
                    go_ret
                    exact ⟨ret_bool H.out.symm, below_dn hfin _⟩
                   ·have v1 : (pt == pq) = false := beq_eq_false_iff_ne.2 he
                    have HN : Hid (∀ m (hm : m < t + 1) (hm2 : m < u.ps.length), u.ps[m] ≠ u.ps[q]) := Lib.hid fun m hm hm2 => by
                     by_cases hmt : m < t
                     ·exact ht2 m hmt hm2
                     ·obtain rfl : m = t := by omega
                      rw [← hpt.out, ← hpq.out]
                      exact he
                    replace he := Lib.hid he
                    clear ht2
                    go_wp2_with fail
                    go_quiet (fail)
                    go_wp2_with fail
                    go_roundw
                    case rel => exact ⟨t + 1, by omega, by go_num, HN.out, below_dn hbt _⟩
                    case measure => simp [RowKit.intOf]; omega
                  ·have j2 : ¬ (t : Int) < (q : Int) := by omega
                   have HN : Hid (∀ i (hi : i < u.ps.length), i < q + 1 → (0 ≤ u.ps[i] ∧ u.ps[i] ≤ u.nx - 1) ∧ ∀ k (hk : k < i), u.ps[k] ≠ u.ps[i]) := Lib.hid fun i hi hiq => by
                    by_cases h : i < q
                    ·exact HQ.out i hi h
                    ·obtain rfl : i = q := by omega
                     exact ⟨Y3.out, fun k hk => ht2 k (by omega) (by omega)⟩
                   have hfin := bt hbq hbt
                   clear ht2
                   go_wp2_with fail
                   go_roundw
                   case rel => exact ⟨q + 1, by omega, by go_num, HN.out, hfin⟩
                   case measure => simp [RowKit.intOf]; omega
                ·have p3 := fun W => rin8_at false u.ps[q] 0 (u.nx - 1) W (iff_of_false Bool.false_ne_true y3)
                 have H : Hid (c = false) := HF.out fun h => y3 (h.2.2.2 q hqt).1
                 clear hc3 hq2
                 generalize u.ps[q] = pq at *
                 have p3q : ∀ n, Calls Tryz.prog 33 #[.int .i64 pq, .int .i64 0, .int .i64 (u.nx - 1)] (wq.drewN n) fun e w' => e = .returned (.bool false) ∧ ∃ m, w' = (wq.drewN n).drewN m := fun n => (p3 _).mono fun e w' h => ⟨h.1, 0, h.2.symm⟩
                 go_wp2_with fail
                 go_quiet ((go_at_call 33; with_reducible refine Calls.quiet_of (p3q _)))
                 go_wp2_with fail
                 go_ret
                 exact ⟨ret_bool H.out.symm, below_dn (bt hbz hbq) _⟩
               ·have HO : Hid (HomeOk d s u.d) := Lib.hid ⟨y0.out, y1, y2, fun i hi => hq2 i hi (by show i < q; have : i < u.ps.length := hi; omega)⟩
                clear hq2
                have hfin := bt hby hbq
                go_wp2_with fail
                go_roundw
                case rel => exact ⟨k + 1, by omega, by go_num, HT.out HO.out, hfin⟩
                case measure => simp [RowKit.intOf]; omega
             ·have p2 := fun W => rin8_at false u.rt 0 4294967295 W (iff_of_false Bool.false_ne_true y2)
              have H : Hid (c = false) := HF.out fun h => y2 h.2.2.1
              go_wp2_with (first
               | (go_at_call 33; (with_reducible refine (p1 _).mono ?_); rintro e wi ⟨rfl, rfl⟩)
               | (go_at_call 33; (with_reducible refine (p2 _).mono ?_); rintro e wi ⟨rfl, rfl⟩))
              go_ret
              exact ⟨ret_bool H.out.symm, hbz⟩
            ·have p1 := fun W => rin8_at false u.nx (d + 1) (d + 1 + s) W (iff_of_false Bool.false_ne_true y1)
             have H : Hid (c = false) := HF.out fun h => y1 h.2.1
             go_wp2_with (first
              | (go_at_call 33; (with_reducible refine (p1 _).mono ?_); rintro e wi ⟨rfl, rfl⟩))
             go_ret
             exact ⟨ret_bool H.out.symm, hbz⟩
           ·have z0 : ((u.ps.length : Int) != d + 1) = true := bne_iff_ne.2 y0
            have H : Hid (c = false) := HF.out fun h => y0 h.1
            replace y0 := Lib.hid y0
            go_wp2_with fail
            go_ret
            exact ⟨ret_bool H.out.symm, hbz⟩
          ·have H : Hid (c = true) := HC.out.2 fun h hh => hs2 h (by rw [List.take_of_length_le (by rw [hds_length]; omega)]; exact hh)
           clear hs2
           go_wp2_with fail
           go_ret
           exact ⟨ret_bool H.out.symm, hbw⟩
        ·obtain rfl : c = false := by cases c; rfl; exact absurd (show (x.hs.length : Int) = z from (fun h : AncOk z d s l E x.d => (by have := h.2.2.2.2.2.2.2.1; simpa [AV.d, hds_length] using this)) (hc.1 rfl)) h7
         have c0 := fun W => rin8_at true x.gen 0 4294967295 W (iff_of_true rfl h0)
         have c1 := fun W => rin8_at true x.ep 0 4294967295 W (iff_of_true rfl h1)
         have c2 := fun W => rin8_at true x.seq 1 4294967295 W (iff_of_true rfl h2)
         have c3 := fun W => rin8_at true x.last 0 4294967295 W (iff_of_true rfl h3)
         have c5 := fun W => rin8_at true x.pos 0 (l - 1) W (iff_of_true rfl h5)
         subst E
         have q7 : ((x.hs.length : Int) != z) = true := bne_iff_ne.2 h7
         clear hc hx ht h7
         go_enter Tryz.func16, Tryz.ntmps16
         go_wp2_with (first
          | (go_at_call 33; (with_reducible refine (c0 _).mono ?_); rintro e wi ⟨rfl, rfl⟩)
          | (go_at_call 33; (with_reducible refine (c1 _).mono ?_); rintro e wi ⟨rfl, rfl⟩)
          | (go_at_call 33; (with_reducible refine (c2 _).mono ?_); rintro e wi ⟨rfl, rfl⟩)
          | (go_at_call 33; (with_reducible refine (c3 _).mono ?_); rintro e wi ⟨rfl, rfl⟩)
          | (go_at_call 33; (with_reducible refine (c5 _).mono ?_); rintro e wi ⟨rfl, rfl⟩)
          | (go_at_call 34; (with_reducible refine (cL _).mono ?_); rintro e wL ⟨rfl, hbL⟩; replace g0 := kst hbL (by omega) g0; replace g1 := kst hbL (by omega) g1; replace g2 := kst hbL (by omega) g2; replace g3 := kst hbL (by omega) g3; replace k6 := kst hbL l1 k6; replace l1 := Nat.lt_of_lt_of_le l1 hbL.size))
         go_ret
         exact ⟨rfl, bt hb0 hbL⟩
       ·obtain rfl : c = false := by cases c; rfl; exact absurd (show E = 0 from (fun h : AncOk z d s l E x.d => h.2.2.2.2.2.2.1) (hc.1 rfl)) h6
        have c0 := fun W => rin8_at true x.gen 0 4294967295 W (iff_of_true rfl h0)
        have c1 := fun W => rin8_at true x.ep 0 4294967295 W (iff_of_true rfl h1)
        have c2 := fun W => rin8_at true x.seq 1 4294967295 W (iff_of_true rfl h2)
        have c3 := fun W => rin8_at true x.last 0 4294967295 W (iff_of_true rfl h3)
        have c5 := fun W => rin8_at true x.pos 0 (l - 1) W (iff_of_true rfl h5)
        have q6 : (E != 0) = true := bne_iff_ne.2 h6
        clear hc hx ht h6
        go_enter Tryz.func16, Tryz.ntmps16
        go_wp2_with (first
         | (go_at_call 33; (with_reducible refine (c0 _).mono ?_); rintro e wi ⟨rfl, rfl⟩)
         | (go_at_call 33; (with_reducible refine (c1 _).mono ?_); rintro e wi ⟨rfl, rfl⟩)
         | (go_at_call 33; (with_reducible refine (c2 _).mono ?_); rintro e wi ⟨rfl, rfl⟩)
         | (go_at_call 33; (with_reducible refine (c3 _).mono ?_); rintro e wi ⟨rfl, rfl⟩)
         | (go_at_call 33; (with_reducible refine (c5 _).mono ?_); rintro e wi ⟨rfl, rfl⟩)
         | (go_at_call 34; (with_reducible refine (cL _).mono ?_); rintro e wL ⟨rfl, hbL⟩; replace g0 := kst hbL (by omega) g0; replace g1 := kst hbL (by omega) g1; replace g2 := kst hbL (by omega) g2; replace g3 := kst hbL (by omega) g3; replace k6 := kst hbL l1 k6; replace l1 := Nat.lt_of_lt_of_le l1 hbL.size))
        go_ret
        exact ⟨rfl, bt hb0 hbL⟩
      ·obtain rfl : c = false := by cases c; rfl; exact absurd (show 0 ≤ x.pos ∧ x.pos ≤ l - 1 from (fun h : AncOk z d s l E x.d => h.2.2.2.2.2.1) (hc.1 rfl)) h5
       have c0 := fun W => rin8_at true x.gen 0 4294967295 W (iff_of_true rfl h0)
       have c1 := fun W => rin8_at true x.ep 0 4294967295 W (iff_of_true rfl h1)
       have c2 := fun W => rin8_at true x.seq 1 4294967295 W (iff_of_true rfl h2)
       have c3 := fun W => rin8_at true x.last 0 4294967295 W (iff_of_true rfl h3)
       have c5 := fun W => rin8_at false x.pos 0 (l - 1) W (iff_of_false Bool.false_ne_true h5)
       clear hc hx ht cL k6
       go_enter Tryz.func16, Tryz.ntmps16
       go_wp2_with (first
        | (go_at_call 33; (with_reducible refine (c0 _).mono ?_); rintro e wi ⟨rfl, rfl⟩)
        | (go_at_call 33; (with_reducible refine (c1 _).mono ?_); rintro e wi ⟨rfl, rfl⟩)
        | (go_at_call 33; (with_reducible refine (c2 _).mono ?_); rintro e wi ⟨rfl, rfl⟩)
        | (go_at_call 33; (with_reducible refine (c3 _).mono ?_); rintro e wi ⟨rfl, rfl⟩)
        | (go_at_call 33; (with_reducible refine (c5 _).mono ?_); rintro e wi ⟨rfl, rfl⟩))
       go_ret
       exact ⟨rfl, hb0⟩
     ·obtain rfl : c = false := by cases c; rfl; exact absurd (show x.seq - 1 ≤ x.last from (fun h : AncOk z d s l E x.d => h.2.2.2.2.1) (hc.1 rfl)) h4
      have c0 := fun W => rin8_at true x.gen 0 4294967295 W (iff_of_true rfl h0)
      have c1 := fun W => rin8_at true x.ep 0 4294967295 W (iff_of_true rfl h1)
      have c2 := fun W => rin8_at true x.seq 1 4294967295 W (iff_of_true rfl h2)
      have c3 := fun W => rin8_at true x.last 0 4294967295 W (iff_of_true rfl h3)
      clear hc hx ht cL k6
      go_enter Tryz.func16, Tryz.ntmps16
      go_wp2_with (first
       | (go_at_call 33; (with_reducible refine (c0 _).mono ?_); rintro e wi ⟨rfl, rfl⟩)
       | (go_at_call 33; (with_reducible refine (c1 _).mono ?_); rintro e wi ⟨rfl, rfl⟩)
       | (go_at_call 33; (with_reducible refine (c2 _).mono ?_); rintro e wi ⟨rfl, rfl⟩)
       | (go_at_call 33; (with_reducible refine (c3 _).mono ?_); rintro e wi ⟨rfl, rfl⟩))
      go_ret
      exact ⟨rfl, hb0⟩
    ·obtain rfl : c = false := by cases c; rfl; exact absurd (show 0 ≤ x.last ∧ x.last ≤ 4294967295 from (fun h : AncOk z d s l E x.d => h.2.2.2.1) (hc.1 rfl)) h3
     have c0 := fun W => rin8_at true x.gen 0 4294967295 W (iff_of_true rfl h0)
     have c1 := fun W => rin8_at true x.ep 0 4294967295 W (iff_of_true rfl h1)
     have c2 := fun W => rin8_at true x.seq 1 4294967295 W (iff_of_true rfl h2)
     have c3 := fun W => rin8_at false x.last 0 4294967295 W (iff_of_false Bool.false_ne_true h3)
     clear hc hx ht cL k6
     go_enter Tryz.func16, Tryz.ntmps16
     go_wp2_with (first
      | (go_at_call 33; (with_reducible refine (c0 _).mono ?_); rintro e wi ⟨rfl, rfl⟩)
      | (go_at_call 33; (with_reducible refine (c1 _).mono ?_); rintro e wi ⟨rfl, rfl⟩)
      | (go_at_call 33; (with_reducible refine (c2 _).mono ?_); rintro e wi ⟨rfl, rfl⟩)
      | (go_at_call 33; (with_reducible refine (c3 _).mono ?_); rintro e wi ⟨rfl, rfl⟩))
     go_ret
     exact ⟨rfl, hb0⟩
   ·obtain rfl : c = false := by cases c; rfl; exact absurd (show 1 ≤ x.seq ∧ x.seq ≤ 4294967295 from (fun h : AncOk z d s l E x.d => h.2.2.1) (hc.1 rfl)) h2
    have c0 := fun W => rin8_at true x.gen 0 4294967295 W (iff_of_true rfl h0)
    have c1 := fun W => rin8_at true x.ep 0 4294967295 W (iff_of_true rfl h1)
    have c2 := fun W => rin8_at false x.seq 1 4294967295 W (iff_of_false Bool.false_ne_true h2)
    clear hc hx ht cL k6
    go_enter Tryz.func16, Tryz.ntmps16
    go_wp2_with (first
     | (go_at_call 33; (with_reducible refine (c0 _).mono ?_); rintro e wi ⟨rfl, rfl⟩)
     | (go_at_call 33; (with_reducible refine (c1 _).mono ?_); rintro e wi ⟨rfl, rfl⟩)
     | (go_at_call 33; (with_reducible refine (c2 _).mono ?_); rintro e wi ⟨rfl, rfl⟩))
    go_ret
    exact ⟨rfl, hb0⟩
  ·obtain rfl : c = false := by cases c; rfl; exact absurd (show 0 ≤ x.ep ∧ x.ep ≤ 4294967295 from (fun h : AncOk z d s l E x.d => h.2.1) (hc.1 rfl)) h1
   have c0 := fun W => rin8_at true x.gen 0 4294967295 W (iff_of_true rfl h0)
   have c1 := fun W => rin8_at false x.ep 0 4294967295 W (iff_of_false Bool.false_ne_true h1)
   clear hc hx ht cL k6
   go_enter Tryz.func16, Tryz.ntmps16
   go_wp2_with (first
    | (go_at_call 33; (with_reducible refine (c0 _).mono ?_); rintro e wi ⟨rfl, rfl⟩)
    | (go_at_call 33; (with_reducible refine (c1 _).mono ?_); rintro e wi ⟨rfl, rfl⟩))
   go_ret
   exact ⟨rfl, hb0⟩
 ·obtain rfl : c = false := by cases c; rfl; exact absurd (show 0 ≤ x.gen ∧ x.gen ≤ 4294967295 from (fun h : AncOk z d s l E x.d => h.1) (hc.1 rfl)) h0
  have c0 := fun W => rin8_at false x.gen 0 4294967295 W (iff_of_false Bool.false_ne_true h0)
  clear hc hx ht cL k6
  go_enter Tryz.func16, Tryz.ntmps16
  go_wp2_with (first
   | (go_at_call 33; (with_reducible refine (c0 _).mono ?_); rintro e wi ⟨rfl, rfl⟩))
  go_ret
  exact ⟨rfl, hb0⟩
end Go.Proofs.YtbfdpibjicjagaaGreatDoor.anc
namespace Go.Proofs.YtbfdpibjicjagaaGreatDoor.anc
open Go.RowKit Go.Lib
open Go.Proofs.YtbfdpibjicjagaaGreatDoor.gmt (Ok)
open Go.Proofs.YtbfdpibjicjagaaGreatDoor.pck (le le_length le_one num num_le num_lt le_num)
open Go.Proofs.YtbfdpibjicjagaaGreatDoor.lbl (encL labE)
def encH (h : Hom) : List UInt8 := h.ps.flatMap (fun p => le 1 p.toNat) ++ (le 1 h.nx.toNat ++ le 4 h.rt.toNat)
def encT (a : Anc) : List UInt8 := encL a.lab.data.toList ++ a.hs.flatMap encH
theorem cut_left (x y z : List UInt8) (k n : Nat) (hk : x.length = k) (hn : y.length = n) : ((x ++ (y ++ z)).drop k).take n = y := by
 rw [List.drop_left' hk, List.take_left' hn]
def Good (z d s l : Int) (a : Anc) : Prop := AncOk z d s l (labE a.lab.data.toList) a
end Go.Proofs.YtbfdpibjicjagaaGreatDoor.anc
