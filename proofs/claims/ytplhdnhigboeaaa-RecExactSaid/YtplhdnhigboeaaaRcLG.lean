/-
  The law RecExact: what is more than the law plays. Conditions: 'Crd'.
-/
import Derived.Test.YtplhdnhigboeaaaRcLF
import Derived.Deep.CutRange
namespace Go.Proofs.Ytplhdnhigboeaaa.lrc
open Go.RowKit Go.Lib
open Go.Proofs.Ytplhdnhigboeaaa.gmt (Ok)
open Go.Proofs.Ytplhdnhigboeaaa.anc (bl kal kst ks bm ka)
open Go.Proofs.Ytplhdnhigboeaaa.tbl (C1 c1_new G5 g5_new)
open Go.Proofs.Ytplhdnhigboeaaa.img

theorem timgs_k (g : IV) (n : Nat) (w : World) (hg : g.In w w.heap.size) (hn : g.rs.length = n) (hn1 : n ≤ 1048576) (hs : ∀ x ∈ g.rs, x.l.length ≤ 1048576) :
    Calls Try.prog 10 #[.slice g.A n g.c] w fun e w' => (∃ (A : Option Addr) (c : Nat) (rs : List ImR), e = .returned (.slice A n c) ∧ ids rs = ids g.rs ∧ rs.length = n ∧ IV.In w' w'.heap.size ⟨A, c, rs⟩) ∧ Below w.heap.size w w' := by
  refine (timgs_c g n w hg hn hn1 hs).mono ?_
  rintro e w' ⟨⟨v, rs, rfl, hid, ho⟩, hb⟩
  obtain ⟨A, c, hv, h1, h2, hs⟩ := anc.row_form ho.1
  have hl : rs.length = n := by rw [← ids_length, hid, ids_length, hn]
  rw [hl] at hv
  exact ⟨⟨A, c, rs, by rw [hv], hid, hl, hs, fun r hr => img.own_bin (ho.2 r hr), h1, h2⟩, hb⟩
set_option maxRecDepth 100000 in
set_option maxHeartbeats 8000000 in
theorem exact_heavy (hv : Bool) (z d s l a sq ep cp sl : Int) (r : RcR) (n : Nat) (gA : Option Addr) (gc : Nat) (grs : List ImR) (m : Nat) (bA : Option Addr) (q bc : Nat) (b : List UInt8) (w : World) (hx : BIn w w.heap.size r.i) (hg : IV.In w w.heap.size ⟨gA, gc, grs⟩) (hm : grs.length = m) (hb : Sl w w.heap.size bA b) (h1 : hv = true ↔ Hvy (ids grs)) (h2 : hv = true ∨ 200 < n ∨ 300 < q) :
    Calls Try.prog 3 #[.agg #[.int .i64 z, .int .i64 d, .int .i64 s, .int .i64 l, .int .i64 a], .agg #[.int .i64 r.kd, .int .i64 r.sq, .int .i64 r.ep, .int .i64 r.ps, .int .i64 r.nm, .int .i64 r.i.z, .int .i64 r.i.wh, .slice r.i.A n r.i.c], .slice gA m gc, .slice bA q bc, .int .i64 sq, .int .i64 ep, .int .i64 cp, .int .i64 sl] w fun e w' => e = .returned (.bool true) ∧ Below w.heap.size w w' := by
  have s1 : (w.alloc (.cells #[.int .i64 z, .int .i64 d, .int .i64 s, .int .i64 l, .int .i64 a] 23)).heap.size = w.heap.size + 1 := by simp
  have hx2 := bl (w.alloc (.cells #[.int .i64 z, .int .i64 d, .int .i64 s, .int .i64 l, .int .i64 a] 23)) (.cells #[.int .i64 r.kd, .int .i64 r.sq, .int .i64 r.ep, .int .i64 r.ps, .int .i64 r.nm, .int .i64 r.i.z, .int .i64 r.i.wh, .slice r.i.A n r.i.c] 28)
  have GG := (g5_new w z d s l a).keep hx2 (by omega)
  have RR := c8_new (w.alloc (.cells #[.int .i64 z, .int .i64 d, .int .i64 s, .int .i64 l, .int .i64 a] 23)) (.int .i64 r.kd) (.int .i64 r.sq) (.int .i64 r.ep) (.int .i64 r.ps) (.int .i64 r.nm) (.int .i64 r.i.z) (.int .i64 r.i.wh) (.slice r.i.A n r.i.c) 28
  rw [s1] at RR
  have hw := kal (bl w (.cells #[.int .i64 z, .int .i64 d, .int .i64 s, .int .i64 l, .int .i64 a] 23)) (.cells #[.int .i64 r.kd, .int .i64 r.sq, .int .i64 r.ep, .int .i64 r.ps, .int .i64 r.nm, .int .i64 r.i.z, .int .i64 r.i.wh, .slice r.i.A n r.i.c] 28)
  have l2 : w.heap.size + 1 < ((w.alloc (.cells #[.int .i64 z, .int .i64 d, .int .i64 s, .int .i64 l, .int .i64 a] 23)).alloc (.cells #[.int .i64 r.kd, .int .i64 r.sq, .int .i64 r.ep, .int .i64 r.ps, .int .i64 r.nm, .int .i64 r.i.z, .int .i64 r.i.wh, .slice r.i.A n r.i.c] 28)).heap.size := by simp
  have KS : ExS z d s l a r n ⟨gA, gc, grs⟩ bA b w.heap.size ((w.alloc (.cells #[.int .i64 z, .int .i64 d, .int .i64 s, .int .i64 l, .int .i64 a] 23)).alloc (.cells #[.int .i64 r.kd, .int .i64 r.sq, .int .i64 r.ep, .int .i64 r.ps, .int .i64 r.nm, .int .i64 r.i.z, .int .i64 r.i.wh, .slice r.i.A n r.i.c] 28)) := ⟨GG, RR, l2, hx.next hw, hg.next hw, hb.next hw⟩
  clear s1 hx2 GG RR l2
  have HH := Lib.hid (show ∀ W, IV.In W W.heap.size ⟨gA, gc, grs⟩ → Calls Try.prog 9 #[.slice gA m gc] W fun e w' => e = .returned (.bool hv) ∧ Below W.heap.size W w' from fun W hW => heavy15 hv gA gc grs m W hW hm h1)
  clear hx hg hm hb h1
  go_enter Try.func3, Try.ntmps3
  go_upto_region 1 with fail
  generalize ((w.alloc (.cells #[.int .i64 z, .int .i64 d, .int .i64 s, .int .i64 l, .int .i64 a] 23)).alloc (.cells #[.int .i64 r.kd, .int .i64 r.sq, .int .i64 r.ep, .int .i64 r.ps, .int .i64 r.nm, .int .i64 r.i.z, .int .i64 r.i.wh, .slice r.i.A n r.i.c] 28)) = w2 at *
  obtain ⟨g0, g1, g2, g3, g4⟩ := id KS.gg
  obtain ⟨r0, r1, r2, r3, r4, r5, r6, r7⟩ := id KS.rr
  cases hv
  · replace h2 := h2.resolve_left Bool.false_ne_true
    by_cases h3 : 200 < n
    · have i1 : (200 : Int) < (n : Int) := by omega
      clear h2 h3
      go_wp2_with (go_at_call 9; (with_reducible refine (HH.out _ KS.im).mono ?_); rintro e w3 ⟨rfl, hb3⟩; (replace KS := KS.next hb3); (replace hw := bt hw hb3); (clear g0 g1 g2 g3 g4 r0 r1 r2 r3 r4 r5 r6 r7); (obtain ⟨g0, g1, g2, g3, g4⟩ := id KS.gg); (obtain ⟨r0, r1, r2, r3, r4, r5, r6, r7⟩ := id KS.rr))
      go_ret
      exact ⟨rfl, hw⟩
    · have i1 : ¬ (200 : Int) < (n : Int) := by omega
      have i2 : (300 : Int) < (q : Int) := by omega
      clear h2 h3
      go_wp2_with (go_at_call 9; (with_reducible refine (HH.out _ KS.im).mono ?_); rintro e w3 ⟨rfl, hb3⟩; (replace KS := KS.next hb3); (replace hw := bt hw hb3); (clear g0 g1 g2 g3 g4 r0 r1 r2 r3 r4 r5 r6 r7); (obtain ⟨g0, g1, g2, g3, g4⟩ := id KS.gg); (obtain ⟨r0, r1, r2, r3, r4, r5, r6, r7⟩ := id KS.rr))
      go_ret
      exact ⟨rfl, hw⟩
  · clear h2
    go_wp2_with (go_at_call 9; (with_reducible refine (HH.out _ KS.im).mono ?_); rintro e w3 ⟨rfl, hb3⟩; (replace KS := KS.next hb3); (replace hw := bt hw hb3); (clear g0 g1 g2 g3 g4 r0 r1 r2 r3 r4 r5 r6 r7); (obtain ⟨g0, g1, g2, g3, g4⟩ := id KS.gg); (obtain ⟨r0, r1, r2, r3, r4, r5, r6, r7⟩ := id KS.rr))
    go_ret
    exact ⟨rfl, hw⟩
end Go.Proofs.Ytplhdnhigboeaaa.lrc
