/-
  The document's own answer whether an anchor of a right geometry is right. Conditions: rows shorter than 2^20; what is told of its label is given.
  Anchors as bytes, and back: plain mathematics. No condition beyond each law's own.
-/
import Derived.Test.YtpcadoekhoediaaGreatDoorGAn
import Derived.Test.YtpcadoekhoediaaGreatDoorGGm
import Derived.Deep.CutRange
import Derived.Test.YtpcadoekhoediaaGreatDoorLblD
import Derived.Test.YtpcadoekhoediaaGreatDoorGPk
namespace Go.Proofs.YtpcadoekhoediaaGreatDoor.anc
open Go.RowKit Go.Lib
open Go.Proofs.YtpcadoekhoediaaGreatDoor.gmt (Ok five_new)

/-- A home that is right: of d blocks, s spares. -/
def HomeOk (d s : Int) (h : Hom) : Prop :=
  ((h.ps.length : Int) = d + 1) ∧ (d + 1 ≤ h.nx ∧ h.nx ≤ d + 1 + s) ∧ (0 ≤ h.rt ∧ h.rt ≤ 4294967295) ∧ ∀ i (hi : i < h.ps.length), (0 ≤ h.ps[i] ∧ h.ps[i] ≤ h.nx - 1) ∧ ∀ k (hk : k < i), h.ps[k] ≠ h.ps[i]
/-- An anchor that is right: of z zones, l slots; E: what is told of its label. -/
def AncOk (z d s l E : Int) (a : Anc) : Prop :=
  (0 ≤ a.gen ∧ a.gen ≤ 4294967295) ∧ (0 ≤ a.ep ∧ a.ep ≤ 4294967295) ∧ (1 ≤ a.seq ∧ a.seq ≤ 4294967295) ∧ (0 ≤ a.last ∧ a.last ≤ 4294967295) ∧ a.seq - 1 ≤ a.last ∧ (0 ≤ a.pos ∧ a.pos ≤ l - 1) ∧ E = 0 ∧ ((a.hs.length : Int) = z) ∧ ∀ h ∈ a.hs, HomeOk d s h

set_option maxRecDepth 100000 in
theorem rin8_at (x : Bool) (n lo hi : Int) (w : World) (hx : x = true ↔ lo ≤ n ∧ n ≤ hi) :
    Calls Tryz.prog 33 #[.int .i64 n, .int .i64 lo, .int .i64 hi] w fun e w' => e = .returned (.bool x) ∧ w = w' := by
  by_cases h1 : lo ≤ n
  · by_cases h2 : n ≤ hi
    · obtain rfl : x = true := hx.2 ⟨h1, h2⟩
      clear hx
      go_enter Tryz.func33, Tryz.ntmps33
      go_wp2
      go_ret
      exact ⟨rfl, rfl⟩
    · obtain rfl : x = false := by
        cases x with
        | false => rfl
        | true => exact absurd (hx.1 rfl).2 h2
      clear hx
      go_enter Tryz.func33, Tryz.ntmps33
      go_wp2
      go_ret
      exact ⟨rfl, rfl⟩
  · obtain rfl : x = false := by
      cases x with
      | false => rfl
      | true => exact absurd (hx.1 rfl).1 h1
    clear hx
    go_enter Tryz.func33, Tryz.ntmps33
    go_wp2
    go_ret
    exact ⟨rfl, rfl⟩

set_option maxRecDepth 100000 in
set_option maxHeartbeats 8000000 in
theorem right_any (c : Bool) (z d s l a E : Int) (x : AV) (w : World) (ho : Ok z d s l a) (hx : x.In w w.heap.size) (hn : x.hs.length ≤ 1048576) (ht : HShort 1048576 x.hs)
    (cL : ∀ W, Calls Tryz.prog 34 #[.string x.lab] W fun e w' => e = .returned (.int .i64 E) ∧ Below W.heap.size W w') (hc : c = true ↔ AncOk z d s l E x.d) :
    Calls Tryz.prog 15 #[.agg #[.int .i64 z, .int .i64 d, .int .i64 s, .int .i64 l, .int .i64 a], x.v] w fun e w' => e = .returned (.bool c) ∧ Below w.heap.size w w' := by
  unfold AV.v
  obtain ⟨o1, o2, o3, o4, o5⟩ := ho
  have hb0 := kal (bl w (.cells #[.int .i64 z, .int .i64 d, .int .i64 s, .int .i64 l, .int .i64 a] 23)) (.cells #[.int .i64 x.gen, .int .i64 x.ep, .int .i64 x.pos, .int .i64 x.seq, .int .i64 x.last, .string x.lab, .slice x.HA x.hs.length x.hc] 26)
  obtain ⟨g0, g1, g2, g3, g4⟩ := five_new w z d s l a
  have hbX := bl (w.alloc (.cells #[.int .i64 z, .int .i64 d, .int .i64 s, .int .i64 l, .int .i64 a] 23)) (.cells #[.int .i64 x.gen, .int .i64 x.ep, .int .i64 x.pos, .int .i64 x.seq, .int .i64 x.last, .string x.lab, .slice x.HA x.hs.length x.hc] 26)
  have lg : w.heap.size < (w.alloc (.cells #[.int .i64 z, .int .i64 d, .int .i64 s, .int .i64 l, .int .i64 a] 23)).heap.size := by simp
  replace g0 := kst hbX lg g0
  replace g1 := kst hbX lg g1
  replace g2 := kst hbX lg g2
  replace g3 := kst hbX lg g3
  obtain ⟨-, -, -, -, -, -, k6⟩ := ac_new (w.alloc (.cells #[.int .i64 z, .int .i64 d, .int .i64 s, .int .i64 l, .int .i64 a] 23)) x
  rw [show (w.alloc (.cells #[.int .i64 z, .int .i64 d, .int .i64 s, .int .i64 l, .int .i64 a] 23)).heap.size = w.heap.size + 1 by simp] at k6
  have l1 : w.heap.size + 1 < ((w.alloc (.cells #[.int .i64 z, .int .i64 d, .int .i64 s, .int .i64 l, .int .i64 a] 23)).alloc (.cells #[.int .i64 x.gen, .int .i64 x.ep, .int .i64 x.pos, .int .i64 x.seq, .int .i64 x.last, .string x.lab, .slice x.HA x.hs.length x.hc] 26)).heap.size := by simp
  clear hbX lg g4
  by_cases h0 : 0 ≤ x.gen ∧ x.gen ≤ 4294967295
  · skip
    by_cases h1 : 0 ≤ x.ep ∧ x.ep ≤ 4294967295
    · skip
      by_cases h2 : 1 ≤ x.seq ∧ x.seq ≤ 4294967295
      · skip
        by_cases h3 : 0 ≤ x.last ∧ x.last ≤ 4294967295
        · skip
          by_cases h4 : x.seq - 1 ≤ x.last
          · skip
            by_cases h5 : 0 ≤ x.pos ∧ x.pos ≤ l - 1
            · skip
              by_cases h6 : E = 0
              · skip
                by_cases h7 : (x.hs.length : Int) = z
                · skip
                  subst E
                  have q7 : ((x.hs.length : Int) != z) = false := by rw [h7]; exact bne_self_eq_false _
                  have c0 := fun W => rin8_at true x.gen 0 4294967295 W (iff_of_true rfl h0)
                  have c1 := fun W => rin8_at true x.ep 0 4294967295 W (iff_of_true rfl h1)
                  have c2 := fun W => rin8_at true x.seq 1 4294967295 W (iff_of_true rfl h2)
                  have c3 := fun W => rin8_at true x.last 0 4294967295 W (iff_of_true rfl h3)
                  have c5 := fun W => rin8_at true x.pos 0 (l - 1) W (iff_of_true rfl h5)
                  have HC : Hid (c = true ↔ ∀ h ∈ hds x.hs, HomeOk d s h) := Lib.hid (hc.trans ⟨fun h => h.2.2.2.2.2.2.2.2, fun h => ⟨h0, h1, h2, h3, h4, h5, rfl, (by show ((hds x.hs).length : Int) = z; rw [hds_length]; exact h7), h⟩⟩)
                  replace h7 := Lib.hid h7
                  clear hc
                  go_enter Tryz.func15, Tryz.ntmps15
                  go_wp2_with (first
                    | (go_at_call 33; (with_reducible refine (c0 _).mono ?_); rintro e wi ⟨rfl, rfl⟩)
                    | (go_at_call 33; (with_reducible refine (c1 _).mono ?_); rintro e wi ⟨rfl, rfl⟩)
                    | (go_at_call 33; (with_reducible refine (c2 _).mono ?_); rintro e wi ⟨rfl, rfl⟩)
                    | (go_at_call 33; (with_reducible refine (c3 _).mono ?_); rintro e wi ⟨rfl, rfl⟩)
                    | (go_at_call 33; (with_reducible refine (c5 _).mono ?_); rintro e wi ⟨rfl, rfl⟩)
                    | (go_at_call 34; (with_reducible refine (cL _).mono ?_); rintro e wL ⟨rfl, hbL⟩; replace g0 := kst hbL (by omega) g0; replace g1 := kst hbL (by omega) g1; replace g2 := kst hbL (by omega) g2; replace g3 := kst hbL (by omega) g3; replace k6 := kst hbL l1 k6; replace l1 := Nat.lt_of_lt_of_le l1 hbL.size))
                  have hbL' := bt hb0 hbL
                  replace l1 : w.heap.size + 1 < wL.heap.size := l1
                  clear hb0 hbL cL q7 c0 c1 c2 c3 c5 h0 h1 h2 h3 h4 h5
                  have HX := Lib.hid hx
                  clear hx
                  go_loopw [5] (fun i w' => ∃ k : Nat, k ≤ x.hs.length ∧ i = .int .i64 k ∧ (∀ h ∈ (hds x.hs).take k, HomeOk d s h) ∧ Below wL.heap.size wL w') (fun i _ => x.hs.length - (RowKit.intOf i).toNat)
                  case atStart => exact ⟨0, by omega, rfl, (fun h hh => by simp at hh), Below.refl _ _⟩
                  case round =>
                    obtain ⟨w5, rfl⟩ : ∃ x, x = wr := ⟨wr, rfl⟩
                    obtain ⟨k, hk, rfl, hs2, hbr⟩ := hrel
                    have g1 := kst hbr (by omega) g1
                    have g2 := kst hbr (by omega) g2
                    have k6' := kst hbr l1 k6
                    have hbw := bt hbL' hbr
                    have lw := hbr.size
                    by_cases hlt : k < x.hs.length
                    · have i1 : (k : Int) < (x.hs.length : Int) := by omega
                      have hX := HX.out.next hbw
                      obtain ⟨b1, off, u, e3, hb1, r0, r1, r2, m1, hu, -, e1⟩ := home_at hX.hh hX.hi hlt
                      have m5 := ht _ hu
                      rw [e3] at k6'
                      have HT : Hid (HomeOk d s u.d → ∀ h ∈ (hds x.hs).take (k + 1), HomeOk d s h) := Lib.hid fun hh h hm => by
                        rw [take_next e1] at hm
                        rcases List.mem_append.1 hm with hm | hm
                        · exact hs2 h hm
                        · obtain rfl := List.mem_singleton.1 hm
                          exact hh
                      have HF : Hid (¬ HomeOk d s u.d → c = false) := Lib.hid fun hh => by
                        cases c
                        · rfl
                        · exact absurd (HC.out.1 rfl u.d (List.mem_of_getElem? e1)) hh
                      have hmx : u.ps.length ≤ maxLen := Nat.le_trans m1.2.1 m1.2.2
                      have hcp := m1.2.1
                      clear hs2 hX hu e1 e3
                      go_upto_region 7 with fail
                      have hbh := bl w5 (.cells #[.slice u.A u.ps.length u.c, .int .i64 u.nx, .int .i64 u.rt] 64)
                      replace g1 := kst hbh (by omega) g1
                      replace g2 := kst hbh (by omega) g2
                      have lh : w5.heap.size < (w5.alloc (.cells #[.slice u.A u.ps.length u.c, .int .i64 u.nx, .int .i64 u.rt] 64)).heap.size := by simp
                      have n0 : (w5.alloc (.cells #[.slice u.A u.ps.length u.c, .int .i64 u.nx, .int .i64 u.rt] 64)).cell? ⟨w5.heap.size, 0, none⟩ = some (.slice u.A u.ps.length u.c) := by rw [cell_of_row _ _ _ _ _ _ (heap_alloc_new w5 _)]; rfl
                      have n1 : (w5.alloc (.cells #[.slice u.A u.ps.length u.c, .int .i64 u.nx, .int .i64 u.rt] 64)).cell? ⟨w5.heap.size, 1, none⟩ = some (.int .i64 u.nx) := by rw [cell_of_row _ _ _ _ _ _ (heap_alloc_new w5 _)]; rfl
                      have n2 : (w5.alloc (.cells #[.slice u.A u.ps.length u.c, .int .i64 u.nx, .int .i64 u.rt] 64)).cell? ⟨w5.heap.size, 2, none⟩ = some (.int .i64 u.rt) := by rw [cell_of_row _ _ _ _ _ _ (heap_alloc_new w5 _)]; rfl
                      have hbz := bt hbw hbh
                      have hby := bt hbr hbh
                      replace m1 := m1.next hbh
                      clear hbh r0 r1 r2 k6' hb1
                      generalize w5.alloc (.cells #[.slice u.A u.ps.length u.c, .int .i64 u.nx, .int .i64 u.rt] 64) = wh at *
                      by_cases y0 : (u.ps.length : Int) = d + 1
                      · have z0 : ((u.ps.length : Int) != d + 1) = false := by rw [y0]; exact bne_self_eq_false _
                        replace y0 := Lib.hid y0
                        by_cases y1 : d + 1 ≤ u.nx ∧ u.nx ≤ d + 1 + s
                        · have p1 := fun W => rin8_at true u.nx (d + 1) (d + 1 + s) W (iff_of_true rfl y1)
                          by_cases y2 : 0 ≤ u.rt ∧ u.rt ≤ 4294967295
                          · have p2 := fun W => rin8_at true u.rt 0 4294967295 W (iff_of_true rfl y2)
                            go_wp2_with (first
                              | (go_at_call 33; (with_reducible refine (p1 _).mono ?_); rintro e wi ⟨rfl, rfl⟩)
                              | (go_at_call 33; (with_reducible refine (p2 _).mono ?_); rintro e wi ⟨rfl, rfl⟩))
                            clear p1 p2 z0
                            go_loopw [7] (fun i w' => ∃ q : Nat, q ≤ u.ps.length ∧ i = .int .i64 q ∧ (∀ i (hi : i < u.ps.length), i < q → (0 ≤ u.ps[i] ∧ u.ps[i] ≤ u.nx - 1) ∧ ∀ k (hk : k < i), u.ps[k] ≠ u.ps[i]) ∧ Below wh.heap.size wh w') (fun i _ => u.ps.length - (RowKit.intOf i).toNat)
                            case atStart => exact ⟨0, by omega, rfl, (fun i _ h => by omega), Below.refl _ _⟩
                            case round =>
                              obtain ⟨wq, rfl⟩ : ∃ x, x = wr := ⟨wr, rfl⟩
                              obtain ⟨q, hq, rfl, hq2, hbq⟩ := hrel
                              replace n0 := kst hbq lh n0
                              replace n1 := kst hbq lh n1
                              by_cases hqt : q < u.ps.length
                              · obtain ⟨b3, off3, e5, hb3, hc3⟩ := (m1.next hbq).1 (by rw [ints_length]; omega)
                                have s0 := hc3 q (by rw [ints_length]; omega)
                                rw [ints_get] at s0
                                rw [e5] at n0
                                have j1 : (q : Int) < (u.ps.length : Int) := by omega
                                by_cases y3 : 0 ≤ u.ps[q] ∧ u.ps[q] ≤ u.nx - 1
                                · have p3 := fun W => rin8_at true u.ps[q] 0 (u.nx - 1) W (iff_of_true rfl y3)
                                  have HQ : Hid (∀ i (hi : i < u.ps.length), i < q → (0 ≤ u.ps[i] ∧ u.ps[i] ≤ u.nx - 1) ∧ ∀ k (hk : k < i), u.ps[k] ≠ u.ps[i]) := Lib.hid hq2
                                  have Y3 := Lib.hid y3
                                  have p4 : ∀ pq, pq = u.ps[q] → ∀ W, Calls Tryz.prog 33 #[.int .i64 pq, .int .i64 0, .int .i64 (u.nx - 1)] W fun e w' => e = .returned (.bool true) ∧ W = w' := fun pq hp W => by rw [hp]; exact p3 W
                                  obtain ⟨pq, hpq⟩ : ∃ pq, pq = u.ps[q] := ⟨_, rfl⟩
                                  replace p4 := p4 pq hpq
                                  rw [← hpq] at s0
                                  replace hpq := Lib.hid hpq
                                  clear p3 hc3 hq2 y3
                                  have p4q : ∀ n, Calls Tryz.prog 33 #[.int .i64 pq, .int .i64 0, .int .i64 (u.nx - 1)] (wq.drewN n) fun e w' => e = .returned (.bool true) ∧ ∃ m, w' = (wq.drewN n).drewN m := fun n => (p4 _).mono fun e w' h => ⟨h.1, 0, h.2.symm⟩
                                  go_wp2_with fail
                                  go_quiet ((go_at_call 33; with_reducible refine Calls.quiet_of (p4q _)))
                                  clear p4 p4q
                                  have bq := below_dn (Below.refl wq.heap.size wq) nq
                                  have lq : w5.heap.size < wq.heap.size := Nat.lt_of_lt_of_le lh hbq.size
                                  replace n0 := kst bq lq n0
                                  replace n1 := kst bq lq n1
                                  replace s0 := kst bq hb3 s0
                                  have hb3' : b3 < (wq.drewN nq).heap.size := Nat.lt_of_lt_of_le hb3 bq.size
                                  replace hbq := bt hbq bq
                                  clear bq lq
                                  generalize wq.drewN nq = wp at *
                                  go_wp2_with fail
                                  go_loopw [8] (fun i w' => ∃ t : Nat, t ≤ q ∧ i = .int .i64 t ∧ (∀ m (hm : m < t) (hm2 : m < u.ps.length), u.ps[m] ≠ u.ps[q]) ∧ Below wp.heap.size wp w') (fun i _ => q - (RowKit.intOf i).toNat)
                                  case atStart => exact ⟨0, by omega, rfl, (fun i h => by omega), Below.refl _ _⟩
                                  case round =>
                                    obtain ⟨wt, rfl⟩ : ∃ x, x = wr := ⟨wr, rfl⟩
                                    obtain ⟨t, htq, rfl, ht2, hbt⟩ := hrel
                                    have lp : w5.heap.size < wp.heap.size := Nat.lt_of_lt_of_le lh hbq.size
                                    replace n0 := kst hbt lp n0
                                    replace s0 := kst hbt hb3' s0
                                    by_cases htt : t < q
                                    · have j2 : (t : Int) < (q : Int) := by omega
                                      have j3 : (t : Int) < (u.ps.length : Int) := by omega
                                      obtain ⟨b4, off4, e6, hb4, hc4⟩ := (m1.next (bt hbq hbt)).1 (by rw [ints_length]; omega)
                                      have s1 := hc4 t (by rw [ints_length]; omega)
                                      rw [ints_get] at s1
                                      obtain ⟨rfl, rfl⟩ : b4 = b3 ∧ off4 = off3 := by rw [e5] at e6; simpa [eq_comm] using e6
                                      obtain ⟨pt, hpt⟩ : ∃ pt, pt = u.ps[t] := ⟨_, rfl⟩
                                      rw [← hpt] at s1
                                      replace hpt := Lib.hid hpt
                                      have hfin := bt hbz (bt hbq hbt)
                                      clear hc4 e6
                                      by_cases he : pt = pq
                                      · have v1 : (pt == pq) = true := beq_iff_eq.2 he
                                        have H : Hid (c = false) := Lib.hid (HF.out fun h => (h.2.2.2 q hqt).2 t htt (by show u.ps[t] = u.ps[q]; rw [← hpt.out, ← hpq.out, he]))
                                        replace he := Lib.hid he
                                        clear ht2
                                        go_wp2_with fail
                                        go_quiet (fail)
                                        go_wp2_with fail
                                        go_ret
                                        exact ⟨ret_bool H.out.symm, below_dn hfin _⟩
                                      · have v1 : (pt == pq) = false := beq_eq_false_iff_ne.2 he
                                        have HN : Hid (∀ m (hm : m < t + 1) (hm2 : m < u.ps.length), u.ps[m] ≠ u.ps[q]) := Lib.hid fun m hm hm2 => by
                                          by_cases hmt : m < t
                                          · exact ht2 m hmt hm2
                                          · obtain rfl : m = t := by omega
                                            rw [← hpt.out, ← hpq.out]
                                            exact he
                                        replace he := Lib.hid he
                                        clear ht2
                                        go_wp2_with fail
                                        go_quiet (fail)
                                        go_wp2_with fail
                                        go_roundw
                                        case rel => exact ⟨t + 1, by omega, by go_num, HN.out, below_dn hbt _⟩
                                        case measure => simp [RowKit.intOf]; omega
                                    · have j2 : ¬ (t : Int) < (q : Int) := by omega
                                      have HN : Hid (∀ i (hi : i < u.ps.length), i < q + 1 → (0 ≤ u.ps[i] ∧ u.ps[i] ≤ u.nx - 1) ∧ ∀ k (hk : k < i), u.ps[k] ≠ u.ps[i]) := Lib.hid fun i hi hiq => by
                                        by_cases h : i < q
                                        · exact HQ.out i hi h
                                        · obtain rfl : i = q := by omega
                                          exact ⟨Y3.out, fun k hk => ht2 k (by omega) (by omega)⟩
                                      have hfin := bt hbq hbt
                                      clear ht2
                                      go_wp2_with fail
                                      go_roundw
                                      case rel => exact ⟨q + 1, by omega, by go_num, HN.out, hfin⟩
                                      case measure => simp [RowKit.intOf]; omega
                                · have p3 := fun W => rin8_at false u.ps[q] 0 (u.nx - 1) W (iff_of_false Bool.false_ne_true y3)
                                  have H : Hid (c = false) := HF.out fun h => y3 (h.2.2.2 q hqt).1
                                  clear hc3 hq2
                                  generalize u.ps[q] = pq at *
                                  have p3q : ∀ n, Calls Tryz.prog 33 #[.int .i64 pq, .int .i64 0, .int .i64 (u.nx - 1)] (wq.drewN n) fun e w' => e = .returned (.bool false) ∧ ∃ m, w' = (wq.drewN n).drewN m := fun n => (p3 _).mono fun e w' h => ⟨h.1, 0, h.2.symm⟩
                                  go_wp2_with fail
                                  go_quiet ((go_at_call 33; with_reducible refine Calls.quiet_of (p3q _)))
                                  go_wp2_with fail
                                  go_ret
                                  exact ⟨ret_bool H.out.symm, below_dn (bt hbz hbq) _⟩
                              · have HO : Hid (HomeOk d s u.d) := Lib.hid ⟨y0.out, y1, y2, fun i hi => hq2 i hi (by show i < q; have : i < u.ps.length := hi; omega)⟩
                                clear hq2
                                have hfin := bt hby hbq
                                go_wp2_with fail
                                go_roundw
                                case rel => exact ⟨k + 1, by omega, by go_num, HT.out HO.out, hfin⟩
                                case measure => simp [RowKit.intOf]; omega
                          · have p2 := fun W => rin8_at false u.rt 0 4294967295 W (iff_of_false Bool.false_ne_true y2)
                            have H : Hid (c = false) := HF.out fun h => y2 h.2.2.1
                            go_wp2_with (first
                              | (go_at_call 33; (with_reducible refine (p1 _).mono ?_); rintro e wi ⟨rfl, rfl⟩)
                              | (go_at_call 33; (with_reducible refine (p2 _).mono ?_); rintro e wi ⟨rfl, rfl⟩))
                            go_ret
                            exact ⟨ret_bool H.out.symm, hbz⟩
                        · have p1 := fun W => rin8_at false u.nx (d + 1) (d + 1 + s) W (iff_of_false Bool.false_ne_true y1)
                          have H : Hid (c = false) := HF.out fun h => y1 h.2.1
                          go_wp2_with (first
                            | (go_at_call 33; (with_reducible refine (p1 _).mono ?_); rintro e wi ⟨rfl, rfl⟩))
                          go_ret
                          exact ⟨ret_bool H.out.symm, hbz⟩
                      · have z0 : ((u.ps.length : Int) != d + 1) = true := bne_iff_ne.2 y0
                        have H : Hid (c = false) := HF.out fun h => y0 h.1
                        replace y0 := Lib.hid y0
                        go_wp2_with fail
                        go_ret
                        exact ⟨ret_bool H.out.symm, hbz⟩
                    · have H : Hid (c = true) := HC.out.2 fun h hh => hs2 h (by rw [List.take_of_length_le (by rw [hds_length]; omega)]; exact hh)
                      clear hs2
                      go_wp2_with fail
                      go_ret
                      exact ⟨ret_bool H.out.symm, hbw⟩
                · obtain rfl : c = false := by cases c; rfl; exact absurd (show (x.hs.length : Int) = z from (fun h : AncOk z d s l E x.d => (by have := h.2.2.2.2.2.2.2.1; simpa [AV.d, hds_length] using this)) (hc.1 rfl)) h7
                  have c0 := fun W => rin8_at true x.gen 0 4294967295 W (iff_of_true rfl h0)
                  have c1 := fun W => rin8_at true x.ep 0 4294967295 W (iff_of_true rfl h1)
                  have c2 := fun W => rin8_at true x.seq 1 4294967295 W (iff_of_true rfl h2)
                  have c3 := fun W => rin8_at true x.last 0 4294967295 W (iff_of_true rfl h3)
                  have c5 := fun W => rin8_at true x.pos 0 (l - 1) W (iff_of_true rfl h5)
                  subst E
                  have q7 : ((x.hs.length : Int) != z) = true := bne_iff_ne.2 h7
                  clear hc hx ht h7
                  go_enter Tryz.func15, Tryz.ntmps15
                  go_wp2_with (first
                    | (go_at_call 33; (with_reducible refine (c0 _).mono ?_); rintro e wi ⟨rfl, rfl⟩)
                    | (go_at_call 33; (with_reducible refine (c1 _).mono ?_); rintro e wi ⟨rfl, rfl⟩)
                    | (go_at_call 33; (with_reducible refine (c2 _).mono ?_); rintro e wi ⟨rfl, rfl⟩)
                    | (go_at_call 33; (with_reducible refine (c3 _).mono ?_); rintro e wi ⟨rfl, rfl⟩)
                    | (go_at_call 33; (with_reducible refine (c5 _).mono ?_); rintro e wi ⟨rfl, rfl⟩)
                    | (go_at_call 34; (with_reducible refine (cL _).mono ?_); rintro e wL ⟨rfl, hbL⟩; replace g0 := kst hbL (by omega) g0; replace g1 := kst hbL (by omega) g1; replace g2 := kst hbL (by omega) g2; replace g3 := kst hbL (by omega) g3; replace k6 := kst hbL l1 k6; replace l1 := Nat.lt_of_lt_of_le l1 hbL.size))
                  go_ret
                  exact ⟨rfl, bt hb0 hbL⟩
              · obtain rfl : c = false := by cases c; rfl; exact absurd (show E = 0 from (fun h : AncOk z d s l E x.d => h.2.2.2.2.2.2.1) (hc.1 rfl)) h6
                have c0 := fun W => rin8_at true x.gen 0 4294967295 W (iff_of_true rfl h0)
                have c1 := fun W => rin8_at true x.ep 0 4294967295 W (iff_of_true rfl h1)
                have c2 := fun W => rin8_at true x.seq 1 4294967295 W (iff_of_true rfl h2)
                have c3 := fun W => rin8_at true x.last 0 4294967295 W (iff_of_true rfl h3)
                have c5 := fun W => rin8_at true x.pos 0 (l - 1) W (iff_of_true rfl h5)
                have q6 : (E != 0) = true := bne_iff_ne.2 h6
                clear hc hx ht h6
                go_enter Tryz.func15, Tryz.ntmps15
                go_wp2_with (first
                  | (go_at_call 33; (with_reducible refine (c0 _).mono ?_); rintro e wi ⟨rfl, rfl⟩)
                  | (go_at_call 33; (with_reducible refine (c1 _).mono ?_); rintro e wi ⟨rfl, rfl⟩)
                  | (go_at_call 33; (with_reducible refine (c2 _).mono ?_); rintro e wi ⟨rfl, rfl⟩)
                  | (go_at_call 33; (with_reducible refine (c3 _).mono ?_); rintro e wi ⟨rfl, rfl⟩)
                  | (go_at_call 33; (with_reducible refine (c5 _).mono ?_); rintro e wi ⟨rfl, rfl⟩)
                  | (go_at_call 34; (with_reducible refine (cL _).mono ?_); rintro e wL ⟨rfl, hbL⟩; replace g0 := kst hbL (by omega) g0; replace g1 := kst hbL (by omega) g1; replace g2 := kst hbL (by omega) g2; replace g3 := kst hbL (by omega) g3; replace k6 := kst hbL l1 k6; replace l1 := Nat.lt_of_lt_of_le l1 hbL.size))
                go_ret
                exact ⟨rfl, bt hb0 hbL⟩
            · obtain rfl : c = false := by cases c; rfl; exact absurd (show 0 ≤ x.pos ∧ x.pos ≤ l - 1 from (fun h : AncOk z d s l E x.d => h.2.2.2.2.2.1) (hc.1 rfl)) h5
              have c0 := fun W => rin8_at true x.gen 0 4294967295 W (iff_of_true rfl h0)
              have c1 := fun W => rin8_at true x.ep 0 4294967295 W (iff_of_true rfl h1)
              have c2 := fun W => rin8_at true x.seq 1 4294967295 W (iff_of_true rfl h2)
              have c3 := fun W => rin8_at true x.last 0 4294967295 W (iff_of_true rfl h3)
              have c5 := fun W => rin8_at false x.pos 0 (l - 1) W (iff_of_false Bool.false_ne_true h5)
              clear hc hx ht cL k6
              go_enter Tryz.func15, Tryz.ntmps15
              go_wp2_with (first
                | (go_at_call 33; (with_reducible refine (c0 _).mono ?_); rintro e wi ⟨rfl, rfl⟩)
                | (go_at_call 33; (with_reducible refine (c1 _).mono ?_); rintro e wi ⟨rfl, rfl⟩)
                | (go_at_call 33; (with_reducible refine (c2 _).mono ?_); rintro e wi ⟨rfl, rfl⟩)
                | (go_at_call 33; (with_reducible refine (c3 _).mono ?_); rintro e wi ⟨rfl, rfl⟩)
                | (go_at_call 33; (with_reducible refine (c5 _).mono ?_); rintro e wi ⟨rfl, rfl⟩))
              go_ret
              exact ⟨rfl, hb0⟩
          · obtain rfl : c = false := by cases c; rfl; exact absurd (show x.seq - 1 ≤ x.last from (fun h : AncOk z d s l E x.d => h.2.2.2.2.1) (hc.1 rfl)) h4
            have c0 := fun W => rin8_at true x.gen 0 4294967295 W (iff_of_true rfl h0)
            have c1 := fun W => rin8_at true x.ep 0 4294967295 W (iff_of_true rfl h1)
            have c2 := fun W => rin8_at true x.seq 1 4294967295 W (iff_of_true rfl h2)
            have c3 := fun W => rin8_at true x.last 0 4294967295 W (iff_of_true rfl h3)
            clear hc hx ht cL k6
            go_enter Tryz.func15, Tryz.ntmps15
            go_wp2_with (first
              | (go_at_call 33; (with_reducible refine (c0 _).mono ?_); rintro e wi ⟨rfl, rfl⟩)
              | (go_at_call 33; (with_reducible refine (c1 _).mono ?_); rintro e wi ⟨rfl, rfl⟩)
              | (go_at_call 33; (with_reducible refine (c2 _).mono ?_); rintro e wi ⟨rfl, rfl⟩)
              | (go_at_call 33; (with_reducible refine (c3 _).mono ?_); rintro e wi ⟨rfl, rfl⟩))
            go_ret
            exact ⟨rfl, hb0⟩
        · obtain rfl : c = false := by cases c; rfl; exact absurd (show 0 ≤ x.last ∧ x.last ≤ 4294967295 from (fun h : AncOk z d s l E x.d => h.2.2.2.1) (hc.1 rfl)) h3
          have c0 := fun W => rin8_at true x.gen 0 4294967295 W (iff_of_true rfl h0)
          have c1 := fun W => rin8_at true x.ep 0 4294967295 W (iff_of_true rfl h1)
          have c2 := fun W => rin8_at true x.seq 1 4294967295 W (iff_of_true rfl h2)
          have c3 := fun W => rin8_at false x.last 0 4294967295 W (iff_of_false Bool.false_ne_true h3)
          clear hc hx ht cL k6
          go_enter Tryz.func15, Tryz.ntmps15
          go_wp2_with (first
            | (go_at_call 33; (with_reducible refine (c0 _).mono ?_); rintro e wi ⟨rfl, rfl⟩)
            | (go_at_call 33; (with_reducible refine (c1 _).mono ?_); rintro e wi ⟨rfl, rfl⟩)
            | (go_at_call 33; (with_reducible refine (c2 _).mono ?_); rintro e wi ⟨rfl, rfl⟩)
            | (go_at_call 33; (with_reducible refine (c3 _).mono ?_); rintro e wi ⟨rfl, rfl⟩))
          go_ret
          exact ⟨rfl, hb0⟩
      · obtain rfl : c = false := by cases c; rfl; exact absurd (show 1 ≤ x.seq ∧ x.seq ≤ 4294967295 from (fun h : AncOk z d s l E x.d => h.2.2.1) (hc.1 rfl)) h2
        have c0 := fun W => rin8_at true x.gen 0 4294967295 W (iff_of_true rfl h0)
        have c1 := fun W => rin8_at true x.ep 0 4294967295 W (iff_of_true rfl h1)
        have c2 := fun W => rin8_at false x.seq 1 4294967295 W (iff_of_false Bool.false_ne_true h2)
        clear hc hx ht cL k6
        go_enter Tryz.func15, Tryz.ntmps15
        go_wp2_with (first
          | (go_at_call 33; (with_reducible refine (c0 _).mono ?_); rintro e wi ⟨rfl, rfl⟩)
          | (go_at_call 33; (with_reducible refine (c1 _).mono ?_); rintro e wi ⟨rfl, rfl⟩)
          | (go_at_call 33; (with_reducible refine (c2 _).mono ?_); rintro e wi ⟨rfl, rfl⟩))
        go_ret
        exact ⟨rfl, hb0⟩
    · obtain rfl : c = false := by cases c; rfl; exact absurd (show 0 ≤ x.ep ∧ x.ep ≤ 4294967295 from (fun h : AncOk z d s l E x.d => h.2.1) (hc.1 rfl)) h1
      have c0 := fun W => rin8_at true x.gen 0 4294967295 W (iff_of_true rfl h0)
      have c1 := fun W => rin8_at false x.ep 0 4294967295 W (iff_of_false Bool.false_ne_true h1)
      clear hc hx ht cL k6
      go_enter Tryz.func15, Tryz.ntmps15
      go_wp2_with (first
        | (go_at_call 33; (with_reducible refine (c0 _).mono ?_); rintro e wi ⟨rfl, rfl⟩)
        | (go_at_call 33; (with_reducible refine (c1 _).mono ?_); rintro e wi ⟨rfl, rfl⟩))
      go_ret
      exact ⟨rfl, hb0⟩
  · obtain rfl : c = false := by cases c; rfl; exact absurd (show 0 ≤ x.gen ∧ x.gen ≤ 4294967295 from (fun h : AncOk z d s l E x.d => h.1) (hc.1 rfl)) h0
    have c0 := fun W => rin8_at false x.gen 0 4294967295 W (iff_of_false Bool.false_ne_true h0)
    clear hc hx ht cL k6
    go_enter Tryz.func15, Tryz.ntmps15
    go_wp2_with (first
      | (go_at_call 33; (with_reducible refine (c0 _).mono ?_); rintro e wi ⟨rfl, rfl⟩))
    go_ret
    exact ⟨rfl, hb0⟩
end Go.Proofs.YtpcadoekhoediaaGreatDoor.anc

namespace Go.Proofs.YtpcadoekhoediaaGreatDoor.anc
open Go.RowKit Go.Lib
open Go.Proofs.YtpcadoekhoediaaGreatDoor.gmt (Ok)
open Go.Proofs.YtpcadoekhoediaaGreatDoor.pck (le le_length le_one num num_le num_lt le_num)
open Go.Proofs.YtpcadoekhoediaaGreatDoor.lbl (encL readL labE lab_len)

/-- A home's bytes; an anchor's. -/
def encH (h : Hom) : List UInt8 := h.ps.flatMap (fun p => le 1 p.toNat) ++ (le 1 h.nx.toNat ++ le 4 h.rt.toNat)
def encN (a : Anc) : List UInt8 := le 4 a.gen.toNat ++ (le 4 a.ep.toNat ++ (le 4 a.seq.toNat ++ (le 4 a.last.toNat ++ le 1 a.pos.toNat)))
def encT (a : Anc) : List UInt8 := encL a.lab.data.toList ++ a.hs.flatMap encH
def encA (a : Anc) : List UInt8 := encN a ++ encT a

/-- The home that bytes begin with; n of them. -/
def homeN (D : Nat) (r : List UInt8) : Hom := ⟨(r.take (D + 1)).map (fun x => (x.toNat : Int)), (num ((r.drop (D + 1)).take 1) : Int), (num ((r.drop (D + 2)).take 4) : Int)⟩
def homesN (D : Nat) (r : List UInt8) (n : Nat) : List Hom := (List.range n).map fun k => homeN D (r.drop (k * (D + 6)))
def ancN (b t : List UInt8) (hs : List Hom) : Anc := ⟨(num (b.take 4) : Int), (num ((b.drop 4).take 4) : Int), (num ((b.drop 16).take 1) : Int), (num ((b.drop 8).take 4) : Int), (num ((b.drop 12).take 4) : Int), ⟨t.toArray⟩, hs⟩
/-- The anchor, right or not, that bytes begin with, and the rest. -/
def parsed (Z D : Nat) (b : List UInt8) : Option (Anc × List UInt8) :=
  if b.length < 17 then none else
  match readL (b.drop 17) with
  | none => none
  | some t => if (b.drop (18 + t.length)).length < Z * (D + 6) then none else some (ancN b t (homesN D (b.drop (18 + t.length)) Z), (b.drop (18 + t.length)).drop (Z * (D + 6)))

theorem byte_back (x : UInt8) : UInt8.ofNat (x.toNat % 256) = x := by
  have := x.toNat_lt
  rw [Nat.mod_eq_of_lt (by omega)]
  simp
theorem le1_flat (l : List UInt8) : (l.map fun x => (x.toNat : Int)).flatMap (fun p => le 1 p.toNat) = l := by
  induction l with
  | nil => rfl
  | cons x l ih =>
    rw [List.map_cons, List.flatMap_cons, ih, Int.toNat_natCast, le_one, byte_back]
    rfl
theorem flat_le1 (l : List Int) (h : ∀ p ∈ l, 0 ≤ p ∧ p < 256) : (l.flatMap (fun p => le 1 p.toNat)).map (fun x => (x.toNat : Int)) = l := by
  induction l with
  | nil => rfl
  | cons x l ih =>
    have hx := h x List.mem_cons_self
    rw [List.flatMap_cons, List.map_append, ih fun p hp => h p (List.mem_cons_of_mem _ hp), le_one]
    have : (UInt8.ofNat (x.toNat % 256)).toNat = x.toNat % 256 := by rw [UInt8.toNat_ofNat']; omega
    simp only [List.map_cons, List.map_nil, this]
    rw [show ((x.toNat % 256 : Nat) : Int) = x by omega]
    rfl
theorem flat_le1_len (l : List Int) : (l.flatMap (fun p => le 1 p.toNat)).length = l.length := by
  induction l with
  | nil => rfl
  | cons x l ih => rw [List.flatMap_cons, List.length_append, ih, le_length, List.length_cons]; omega
theorem le_num' {k : Nat} {l : List UInt8} (h : l.length = k) : le k (num l) = l := by subst h; exact le_num l
theorem cut_len {l : List UInt8} {k n : Nat} (h : k + n ≤ l.length) : ((l.drop k).take n).length = n := by rw [List.length_take, List.length_drop]; omega
theorem encH_length {D : Nat} {h : Hom} (hh : h.ps.length = D + 1) : (encH h).length = D + 6 := by
  unfold encH
  rw [List.length_append, List.length_append, flat_le1_len, le_length, le_length]
  omega
theorem encHs_length {D : Nat} : ∀ {hs : List Hom}, (∀ h ∈ hs, h.ps.length = D + 1) → (hs.flatMap encH).length = hs.length * (D + 6)
  | [], _ => by simp
  | h :: hs, hh => by
    rw [List.flatMap_cons, List.length_append, encH_length (hh h List.mem_cons_self), encHs_length fun x hx => hh x (List.mem_cons_of_mem _ hx), List.length_cons, Nat.succ_mul]
    omega
theorem encH_homeN (D : Nat) (r : List UInt8) (h : D + 6 ≤ r.length) : encH (homeN D r) = r.take (D + 6) := by
  unfold encH homeN
  simp only [Int.toNat_natCast]
  rw [le1_flat, le_num' (cut_len (by omega)), le_num' (cut_len (by omega))]
  rw [show r.drop (D + 2) = (r.drop (D + 1)).drop 1 by rw [List.drop_drop], ← List.take_add, ← List.take_add]
theorem homeN_len (D : Nat) (r : List UInt8) (h : D + 1 ≤ r.length) : (homeN D r).ps.length = D + 1 := by
  show ((r.take (D + 1)).map _).length = _
  rw [List.length_map, List.length_take]
  omega
theorem homesN_enc (D : Nat) (r : List UInt8) : ∀ n, n * (D + 6) ≤ r.length → (homesN D r n).flatMap encH = r.take (n * (D + 6))
  | 0, _ => by simp [homesN]
  | n + 1, h => by
    rw [Nat.succ_mul] at h ⊢
    have ih := homesN_enc D r n (by omega)
    unfold homesN at ih ⊢
    rw [List.range_succ, List.map_append, List.flatMap_append, ih, List.take_add]
    simp only [List.map_cons, List.map_nil, List.flatMap_cons, List.flatMap_nil, List.append_nil]
    rw [encH_homeN D _ (by rw [List.length_drop]; omega)]
theorem homesN_next (D : Nat) (r : List UInt8) (n : Nat) : homesN D r (n + 1) = homesN D r n ++ [homeN D (r.drop (n * (D + 6)))] := by
  unfold homesN
  rw [List.range_succ, List.map_append]
  rfl
theorem homesN_len (D : Nat) (r : List UInt8) (n : Nat) : (homesN D r n).length = n := by simp [homesN]
theorem homesN_mem {D : Nat} {r : List UInt8} {n : Nat} (h : n * (D + 6) ≤ r.length) : ∀ x ∈ homesN D r n, x.ps.length = D + 1 := by
  intro x hx
  obtain ⟨k, hk, rfl⟩ := List.mem_map.1 hx
  have := List.mem_range.1 hk
  have h2 : (k + 1) * (D + 6) ≤ n * (D + 6) := Nat.mul_le_mul_right _ this
  rw [Nat.succ_mul] at h2
  exact homeN_len D _ (by rw [List.length_drop]; omega)

/-- A home of numbers of their sizes. -/
def HomB (D : Nat) (h : Hom) : Prop := h.ps.length = D + 1 ∧ (∀ p ∈ h.ps, 0 ≤ p ∧ p < 256) ∧ (0 ≤ h.nx ∧ h.nx < 256) ∧ 0 ≤ h.rt ∧ h.rt < 4294967296
theorem num_le1 {n : Int} (h : 0 ≤ n ∧ n < 256) : ((num (le 1 n.toNat) : Nat) : Int) = n := by rw [num_le _ _ (by omega)]; omega
theorem num_le4 {n : Int} (h : 0 ≤ n ∧ n < 4294967296) : ((num (le 4 n.toNat) : Nat) : Int) = n := by rw [num_le _ _ (by omega)]; omega
theorem homeN_enc {D : Nat} {h : Hom} (hb : HomB D h) (r : List UInt8) : homeN D (encH h ++ r) = h := by
  obtain ⟨h1, h2, h3, h4⟩ := hb
  obtain ⟨ps, nx, rt⟩ := h
  have hP : (ps.flatMap fun p => le 1 p.toNat).length = D + 1 := by rw [flat_le1_len]; exact h1
  unfold homeN encH
  have e1 : ((ps.flatMap fun p => le 1 p.toNat) ++ (le 1 nx.toNat ++ le 4 rt.toNat) ++ r).take (D + 1) = ps.flatMap fun p => le 1 p.toNat := by
    rw [List.append_assoc, List.take_left' hP]
  have e2 : ((ps.flatMap fun p => le 1 p.toNat) ++ (le 1 nx.toNat ++ le 4 rt.toNat) ++ r).drop (D + 1) = le 1 nx.toNat ++ (le 4 rt.toNat ++ r) := by
    rw [List.append_assoc, List.drop_left' hP, List.append_assoc]
  have e3 : ((ps.flatMap fun p => le 1 p.toNat) ++ (le 1 nx.toNat ++ le 4 rt.toNat) ++ r).drop (D + 2) = le 4 rt.toNat ++ r := by
    rw [show D + 2 = D + 1 + 1 by omega, ← List.drop_drop, e2, List.drop_left' (le_length _ _)]
  simp only []
  rw [e1, e2, e3, List.take_left' (le_length _ _), List.take_left' (le_length _ _), flat_le1 ps h2, num_le1 h3, num_le4 h4]
theorem homesN_of {D : Nat} : ∀ (hs : List Hom) (r : List UInt8), (∀ h ∈ hs, HomB D h) → homesN D (hs.flatMap encH ++ r) hs.length = hs
  | [], _, _ => rfl
  | h :: hs, r, hb => by
    have h0 := hb h List.mem_cons_self
    have ih := homesN_of hs r fun x hx => hb x (List.mem_cons_of_mem _ hx)
    unfold homesN at ih ⊢
    rw [List.length_cons, List.range_succ_eq_map, List.map_cons, List.map_map, List.flatMap_cons, List.append_assoc, Nat.zero_mul, List.drop_zero, homeN_enc h0]
    congr 1
    refine Eq.trans (List.map_congr_left fun k _ => ?_) ih
    show homeN D ((encH h ++ _).drop ((k + 1) * (D + 6))) = _
    rw [Nat.succ_mul, Nat.add_comm, ← List.drop_drop, List.drop_left' (encH_length h0.1)]

theorem readL_sound {b t : List UInt8} (h : readL b = some t) : b = encL t ++ b.drop (1 + t.length) ∧ labE t = 0 ∧ t.length + 1 ≤ b.length := by
  cases b with
  | nil => cases h
  | cons n r =>
    unfold readL at h
    simp only at h
    split at h
    · cases h
    · split at h
      · rename_i h1 h2
        obtain rfl := Option.some.inj h
        have hl : (r.take n.toNat).length = n.toNat := by rw [List.length_take]; omega
        refine ⟨?_, h2, by rw [hl, List.length_cons]; omega⟩
        unfold encL
        rw [hl, Nat.add_comm, List.drop_succ_cons, List.cons_append, List.take_append_drop]
        simp
      · cases h
theorem readL_of {t : List UInt8} (h : labE t = 0) (r : List UInt8) : readL (encL t ++ r) = some t := by
  have hl := lab_len h
  have hn : (UInt8.ofNat t.length).toNat = t.length := by rw [UInt8.toNat_ofNat']; omega
  unfold encL readL
  rw [List.cons_append]
  simp only [hn]
  rw [if_neg (by rw [List.length_append]; omega), List.take_left, if_pos h]
theorem encL_len (t : List UInt8) : (encL t).length = 1 + t.length := by unfold encL; rw [List.length_cons]; omega

theorem le_cut (b : List UInt8) (k n : Nat) (h : k + n ≤ b.length) : le n (num ((b.drop k).take n)) = (b.drop k).take n := le_num' (cut_len h)
theorem encN_len (a : Anc) : (encN a).length = 17 := by unfold encN; simp [le_length]
theorem encN_ancN (b t : List UInt8) (hs : List Hom) (h : 17 ≤ b.length) : encN (ancN b t hs) = b.take 17 := by
  unfold encN ancN
  simp only [Int.toNat_natCast]
  have h0 : le 4 (num (b.take 4)) = b.take 4 := by have := le_cut b 0 4 (by omega); simpa using this
  rw [h0, le_cut b 4 4 (by omega), le_cut b 8 4 (by omega), le_cut b 12 4 (by omega), le_cut b 16 1 (by omega)]
  rw [show (17 : Nat) = 4 + (4 + (4 + (4 + 1))) from rfl, List.take_add, List.take_add, List.take_add, List.take_add, List.drop_drop, List.drop_drop, List.drop_drop]

theorem parsed_sound {Z D : Nat} {b r : List UInt8} {a : Anc} (h : parsed Z D b = some (a, r)) :
    b = encA a ++ r ∧ a.hs.length = Z ∧ (∀ x ∈ a.hs, x.ps.length = D + 1) ∧ labE a.lab.data.toList = 0 := by
  unfold parsed at h
  split at h
  · cases h
  · rename_i h17
    split at h
    · cases h
    · rename_i t ht
      split at h
      · cases h
      · rename_i hr
        simp only [Option.some.injEq, Prod.mk.injEq] at h
        obtain ⟨rfl, rfl⟩ := h
        obtain ⟨k1, k2, k3⟩ := readL_sound ht
        refine ⟨?_, homesN_len _ _ _, homesN_mem (by omega), k2⟩
        rw [List.length_drop] at k3
        unfold encA encT
        rw [encN_ancN b t _ (by omega)]
        show b = b.take 17 ++ (encL t ++ (homesN D (b.drop (18 + t.length)) Z).flatMap encH) ++ (b.drop (18 + t.length)).drop (Z * (D + 6))
        rw [homesN_enc D _ Z (by omega), List.append_assoc, List.append_assoc, List.take_append_drop]
        rw [List.drop_drop, show 17 + (1 + t.length) = 18 + t.length by omega] at k1
        rw [← k1, List.take_append_drop]
theorem ba_eq (a : ByteArray) : (⟨a.data.toList.toArray⟩ : ByteArray) = a := by
  cases a
  rfl
/-- An anchor of numbers of their sizes. -/
def AncB (Z D : Nat) (a : Anc) : Prop := (0 ≤ a.gen ∧ a.gen < 4294967296) ∧ (0 ≤ a.ep ∧ a.ep < 4294967296) ∧ (0 ≤ a.seq ∧ a.seq < 4294967296) ∧ (0 ≤ a.last ∧ a.last < 4294967296) ∧ (0 ≤ a.pos ∧ a.pos < 256) ∧ labE a.lab.data.toList = 0 ∧ a.hs.length = Z ∧ ∀ h ∈ a.hs, HomB D h
theorem cut_left (x y z : List UInt8) (k n : Nat) (hk : x.length = k) (hn : y.length = n) : ((x ++ (y ++ z)).drop k).take n = y := by
  rw [List.drop_left' hk, List.take_left' hn]
theorem parsed_of {Z D : Nat} {a : Anc} (h : AncB Z D a) (r : List UInt8) : parsed Z D (encA a ++ r) = some (a, r) := by
  obtain ⟨h1, h2, h3, h4, h5, h6, h7, h8⟩ := h
  obtain ⟨gen, ep, pos, seq, last, lab, hs⟩ := a
  have hl : (hs.flatMap encH).length = Z * (D + 6) := by rw [encHs_length (D := D) fun x hx => (h8 x hx).1, show hs.length = Z from h7]
  have e1 : encA ⟨gen, ep, pos, seq, last, lab, hs⟩ ++ r = encN ⟨gen, ep, pos, seq, last, lab, hs⟩ ++ (encL lab.data.toList ++ (hs.flatMap encH ++ r)) := by
    unfold encA encT
    simp [List.append_assoc]
  have e2 : (encA ⟨gen, ep, pos, seq, last, lab, hs⟩ ++ r).drop 17 = encL lab.data.toList ++ (hs.flatMap encH ++ r) := by
    rw [e1, List.drop_left' (encN_len _)]
  have e3 : (encA ⟨gen, ep, pos, seq, last, lab, hs⟩ ++ r).drop (18 + lab.data.toList.length) = hs.flatMap encH ++ r := by
    rw [show 18 + lab.data.toList.length = 17 + (1 + lab.data.toList.length) by omega, ← List.drop_drop, e2, List.drop_left' (encL_len _)]
  have e0 : ¬ (encA ⟨gen, ep, pos, seq, last, lab, hs⟩ ++ r).length < 17 := by
    rw [e1, List.length_append, encN_len]
    omega
  have eR : readL (encL lab.data.toList ++ (hs.flatMap encH ++ r)) = some lab.data.toList := readL_of h6 _
  unfold parsed
  rw [if_neg e0, e2, eR]
  simp only
  rw [e3, if_neg (by rw [List.length_append, hl]; omega), List.drop_left' hl, ← h7, homesN_of hs r h8]
  unfold ancN
  rw [ba_eq, e1]
  unfold encN
  simp only [List.append_assoc]
  generalize encL lab.data.toList ++ (hs.flatMap encH ++ r) = q
  have c0 : (le 4 gen.toNat ++ (le 4 ep.toNat ++ (le 4 seq.toNat ++ (le 4 last.toNat ++ (le 1 pos.toNat ++ q))))).take 4 = le 4 gen.toNat := List.take_left' (le_length _ _)
  have d4 : (le 4 gen.toNat ++ (le 4 ep.toNat ++ (le 4 seq.toNat ++ (le 4 last.toNat ++ (le 1 pos.toNat ++ q))))).drop 4 = le 4 ep.toNat ++ (le 4 seq.toNat ++ (le 4 last.toNat ++ (le 1 pos.toNat ++ q))) := List.drop_left' (le_length _ _)
  have d8 : (le 4 gen.toNat ++ (le 4 ep.toNat ++ (le 4 seq.toNat ++ (le 4 last.toNat ++ (le 1 pos.toNat ++ q))))).drop 8 = le 4 seq.toNat ++ (le 4 last.toNat ++ (le 1 pos.toNat ++ q)) := by
    rw [show 8 = 4 + 4 from rfl, ← List.drop_drop, d4, List.drop_left' (le_length _ _)]
  have d12 : (le 4 gen.toNat ++ (le 4 ep.toNat ++ (le 4 seq.toNat ++ (le 4 last.toNat ++ (le 1 pos.toNat ++ q))))).drop 12 = le 4 last.toNat ++ (le 1 pos.toNat ++ q) := by
    rw [show 12 = 8 + 4 from rfl, ← List.drop_drop, d8, List.drop_left' (le_length _ _)]
  have d16 : (le 4 gen.toNat ++ (le 4 ep.toNat ++ (le 4 seq.toNat ++ (le 4 last.toNat ++ (le 1 pos.toNat ++ q))))).drop 16 = le 1 pos.toNat ++ q := by
    rw [show 16 = 12 + 4 from rfl, ← List.drop_drop, d12, List.drop_left' (le_length _ _)]
  rw [c0, d4, d8, d12, d16, List.take_left' (le_length _ _), List.take_left' (le_length _ _), List.take_left' (le_length _ _), List.take_left' (le_length _ _)]
  rw [num_le4 h1, num_le4 h2, num_le4 h3, num_le4 h4, num_le1 h5]

/-- A right anchor. -/
def Good (z d s l : Int) (a : Anc) : Prop := AncOk z d s l (labE a.lab.data.toList) a
theorem good_b {z d s l n : Int} {a : Anc} (ho : Ok z d s l n) (h : Good z d s l a) : AncB z.toNat d.toNat a := by
  obtain ⟨o1, o2, o3, o4, -⟩ := ho
  obtain ⟨h1, h2, h3, h4, h5, h6, h7, h8, h9⟩ := h
  refine ⟨by omega, by omega, by omega, by omega, by omega, h7, by omega, fun x hx => ?_⟩
  obtain ⟨g1, g2, g3, g4⟩ := h9 x hx
  refine ⟨by omega, fun p hp => ?_, by omega, by omega, by omega⟩
  obtain ⟨i, hi, rfl⟩ := List.getElem_of_mem hp
  have := (g4 i hi).1
  omega
theorem good_inj {z d s l n : Int} {a a' : Anc} (ho : Ok z d s l n) (h : Good z d s l a) (h' : Good z d s l a') {r r' : List UInt8} (he : encA a ++ r = encA a' ++ r') : a = a' ∧ r = r' := by
  have h1 := parsed_of (good_b ho h) r
  rw [he, parsed_of (good_b ho h') r'] at h1
  simp only [Option.some.injEq, Prod.mk.injEq] at h1
  exact ⟨h1.1.symm, h1.2.symm⟩
theorem good_enc {z d s l n : Int} {a a' : Anc} (ho : Ok z d s l n) (h : Good z d s l a) (h' : Good z d s l a') : encA a = encA a' ↔ a = a' :=
  ⟨fun e => (good_inj ho h h' (r := []) (r' := []) (by rw [e])).1, fun e => by rw [e]⟩
theorem encA_len {Z D : Nat} {a : Anc} (h : AncB Z D a) : (encA a).length = 18 + a.lab.size + Z * (D + 6) := by
  obtain ⟨-, -, -, -, -, -, h7, h8⟩ := h
  unfold encA encT
  rw [List.length_append, List.length_append, encN_len, encL_len, encHs_length (D := D) fun x hx => (h8 x hx).1, h7, size_list]
  omega
end Go.Proofs.YtpcadoekhoediaaGreatDoor.anc
