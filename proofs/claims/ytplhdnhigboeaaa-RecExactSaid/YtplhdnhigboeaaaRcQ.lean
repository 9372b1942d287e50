/-
  The laws' own example (wakes). Conditions: 'Crd'.
-/
import Derived.Test.YtplhdnhigboeaaaRcP
import Derived.Test.YtplhdnhigboeaaaGGm
import Derived.Deep.RegionHeld3
namespace Go.Proofs.Ytplhdnhigboeaaa.lrc
open Go.RowKit Go.Lib
open Go.Proofs.Ytplhdnhigboeaaa.gmt (Ok)
open Go.Proofs.Ytplhdnhigboeaaa.anc (bl kal kst ks bm ka)
open Go.Proofs.Ytplhdnhigboeaaa.tbl (C1 c1_new G5 g5_new)
open Go.Proofs.Ytplhdnhigboeaaa.img

theorem own_bytes {w : World} {base n c : Nat} {e : TypeId} {X : Option Addr} {l : List UInt8} (h : Own w base e (.slice X n c) l) : l.length = n ∧ n ≤ c ∧ c ≤ maxLen ∧ Sl w w.heap.size X l := by
  obtain ⟨Y, y, hv, h1, h2, h3, -⟩ := h.form
  simp only [Value.slice.injEq] at hv
  obtain ⟨rfl, rfl, rfl⟩ := hv
  exact ⟨rfl, h1, h2, h3⟩
def z8 : List UInt8 := [0, 0, 0, 0, 0, 0, 0, 0]
theorem make_8 (W : World) : (Instr.makeSlice 24 (.int .i64 8) (.int .i64 8)).run Try.prog W = .ok (.slice (some ⟨W.heap.size, 0, none⟩) 8 8) (W.alloc (.cells #[.int .u8 0, .int .u8 0, .int .u8 0, .int .u8 0, .int .u8 0, .int .u8 0, .int .u8 0, .int .u8 0] 5)) := by kernel_rfl
/-- One image as it lies in a block of its own. -/
theorem one_img {w : World} {g : Nat} {x : ImR} {t : TypeId} (h : w.heap[g]? = some (.cells #[.int .i64 x.z, .int .i64 x.wh, .slice x.A x.l.length x.c] t)) (hg : g < w.heap.size) (hx : BIn w w.heap.size x) : IV.In w w.heap.size ⟨some ⟨g, 0, none⟩, 1, [x]⟩ :=
  ⟨SlV.of_block h (by simp [ivs, ImR.vs]) hg, fun y hy => by rw [List.mem_singleton] at hy; rw [hy]; exact hx, by simp; decide⟩
def wkI : List (Int × Int × List UInt8) := [(0, -1, z8)]
theorem wk_txn : txnR 3 2 wkI = [⟨1, 3, 2, 0, 2, 0, -1, z8⟩, ⟨2, 3, 2, 1, 2, 0, 0, []⟩] := rfl
theorem wk_ims {z d : Int} (hz : 1 ≤ z) (hd : 1 ≤ d) : ImsOk z d wkI := by
  intro x hx
  rw [wkI, List.mem_singleton] at hx
  subst hx
  exact ⟨⟨by decide, by show (0 : Int) ≤ z - 1; omega⟩, .inr ⟨by decide, ⟨by decide, by show (-1 : Int) ≤ d - 1; omega⟩, rfl⟩⟩
theorem wk_ok {z d : Int} (hz : 1 ≤ z) (hd : 1 ≤ d) : RecOk z d ⟨1, 3, 2, 0, 2, 0, -1, z8⟩ :=
  .inr (.inr ⟨⟨⟨by decide, by decide⟩, ⟨by decide, by decide⟩, by decide, by decide⟩, rfl, ⟨by decide, by decide⟩, wk_ims hz hd (0, -1, z8) (List.mem_singleton.2 rfl)⟩)
theorem wk_not {z d : Int} : ¬ RecOk z d ⟨0, 1, 0, 0, 0, 0, 0, []⟩ := by
  rintro (⟨-, h, -⟩ | ⟨-, h, -⟩ | ⟨-, h, -⟩) <;> exact absurd h (by decide)
set_option maxRecDepth 100000 in
set_option maxHeartbeats 8000000 in
theorem wk_rec (w : World) (hc : Crd w) : Calls Try.prog 20 #[] w fun e w' => e = .returned (.bool true) ∧ Below w.heap.size w w' := by
  have HC := Lib.hid hc
  clear hc
  have HSO := Lib.hid (gmt.some_any 0 0 0 0 0 w)
  go_enter Try.func20, Try.ntmps20
  go_upto_region 2 with (go_at_call 45; (with_reducible refine HSO.out.mono ?_); rintro e w1 ⟨⟨z, d, s, l, a, ho, rfl⟩, hb1⟩)
  have hxG := bl w1 (.cells #[.int .i64 z, .int .i64 d, .int .i64 s, .int .i64 l, .int .i64 a] 23)
  have GG := g5_new w1 z d s l a
  have l1 : w1.heap.size < (w1.alloc (.cells #[.int .i64 z, .int .i64 d, .int .i64 s, .int .i64 l, .int .i64 a] 23)).heap.size := by simp
  have hx := bt hb1 hxG
  have HO := Lib.hid ho
  have hz1 : 1 ≤ z := ho.1.1
  have hd1 : 1 ≤ d ∧ d ≤ 4 := ho.2.1
  have lwg := hb1.size
  have hz4 : z ≤ 4 := ho.1.2
  clear hb1 hxG ho HSO
  generalize hg1 : w1.heap.size = g1 at *
  clear hg1
  generalize w1.alloc (.cells #[.int .i64 z, .int .i64 d, .int .i64 s, .int .i64 l, .int .i64 a] 23) = w2 at *
  have hmk := make_8
  have b2 := bl w2 (.cells #[.int .u8 0, .int .u8 0, .int .u8 0, .int .u8 0, .int .u8 0, .int .u8 0, .int .u8 0, .int .u8 0] 5)
  have b3 := kal b2 (.cells #[.int .i64 0, .int .i64 (-1), .slice (some ⟨w2.heap.size, 0, none⟩) 8 8] 26)
  have s3 : (w2.alloc (.cells #[.int .u8 0, .int .u8 0, .int .u8 0, .int .u8 0, .int .u8 0, .int .u8 0, .int .u8 0, .int .u8 0] 5)).heap.size = w2.heap.size + 1 := by simp
  have hz8 : Sl ((w2.alloc (.cells #[.int .u8 0, .int .u8 0, .int .u8 0, .int .u8 0, .int .u8 0, .int .u8 0, .int .u8 0, .int .u8 0] 5)).alloc (.cells #[.int .i64 0, .int .i64 (-1), .slice (some ⟨w2.heap.size, 0, none⟩) 8 8] 26)) ((w2.alloc (.cells #[.int .u8 0, .int .u8 0, .int .u8 0, .int .u8 0, .int .u8 0, .int .u8 0, .int .u8 0, .int .u8 0] 5)).alloc (.cells #[.int .i64 0, .int .i64 (-1), .slice (some ⟨w2.heap.size, 0, none⟩) 8 8] 26)).heap.size (some ⟨w2.heap.size, 0, none⟩) z8 := (show Sl (w2.alloc (.cells #[.int .u8 0, .int .u8 0, .int .u8 0, .int .u8 0, .int .u8 0, .int .u8 0, .int .u8 0, .int .u8 0] 5)) (w2.alloc (.cells #[.int .u8 0, .int .u8 0, .int .u8 0, .int .u8 0, .int .u8 0, .int .u8 0, .int .u8 0, .int .u8 0] 5)).heap.size (some ⟨w2.heap.size, 0, none⟩) z8 from Sl.of_block (heap_alloc_new w2 _) rfl (by simp)).next (bl _ _)
  have hiv := one_img (w := ((w2.alloc (.cells #[.int .u8 0, .int .u8 0, .int .u8 0, .int .u8 0, .int .u8 0, .int .u8 0, .int .u8 0, .int .u8 0] 5)).alloc (.cells #[.int .i64 0, .int .i64 (-1), .slice (some ⟨w2.heap.size, 0, none⟩) 8 8] 26))) (g := w2.heap.size + 1) (x := ⟨0, -1, some ⟨w2.heap.size, 0, none⟩, 8, z8⟩) (t := 26) (by rw [← s3]; exact heap_alloc_new _ _) (by simp) ⟨hz8, Nat.le_refl 8, (by decide : 8 ≤ maxLen)⟩
  have HTX := Lib.hid (show Calls Try.prog 13 #[.agg #[.int .i64 z, .int .i64 d, .int .i64 s, .int .i64 l, .int .i64 a], .int .i64 3, .int .i64 2, .slice (some ⟨w2.heap.size + 1, 0, none⟩) 1 1] ((w2.alloc (.cells #[.int .u8 0, .int .u8 0, .int .u8 0, .int .u8 0, .int .u8 0, .int .u8 0, .int .u8 0, .int .u8 0] 5)).alloc (.cells #[.int .i64 0, .int .i64 (-1), .slice (some ⟨w2.heap.size, 0, none⟩) 8 8] 26)).drew fun e w' => (∃ (A : Option Addr) (c : Nat) (rs : List RcR), e = .returned (.tuple #[.slice A 2 c, .int .i64 0]) ∧ rds rs = [⟨1, 3, 2, 0, 2, 0, -1, z8⟩, ⟨2, 3, 2, 1, 2, 0, 0, []⟩] ∧ RV.In w' w'.heap.size ⟨A, c, rs⟩) ∧ Below ((w2.alloc (.cells #[.int .u8 0, .int .u8 0, .int .u8 0, .int .u8 0, .int .u8 0, .int .u8 0, .int .u8 0, .int .u8 0] 5)).alloc (.cells #[.int .i64 0, .int .i64 (-1), .slice (some ⟨w2.heap.size, 0, none⟩) 8 8] 26)).drew.heap.size ((w2.alloc (.cells #[.int .u8 0, .int .u8 0, .int .u8 0, .int .u8 0, .int .u8 0, .int .u8 0, .int .u8 0, .int .u8 0] 5)).alloc (.cells #[.int .i64 0, .int .i64 (-1), .slice (some ⟨w2.heap.size, 0, none⟩) 8 8] 26)).drew w' from HC.out.txn z d s l a 3 2 ⟨some ⟨w2.heap.size + 1, 0, none⟩, 1, [⟨0, -1, some ⟨w2.heap.size, 0, none⟩, 8, z8⟩]⟩ 1 ((w2.alloc (.cells #[.int .u8 0, .int .u8 0, .int .u8 0, .int .u8 0, .int .u8 0, .int .u8 0, .int .u8 0, .int .u8 0] 5)).alloc (.cells #[.int .i64 0, .int .i64 (-1), .slice (some ⟨w2.heap.size, 0, none⟩) 8 8] 26)).drew (bt hx (bt b3 (below_dr (Below.refl _ _)))) HO.out ⟨by decide, by decide⟩ ⟨by decide, by decide⟩ (hiv.next (below_dr (Below.refl _ _))) rfl (wk_ims hz1 hd1.1) ⟨by decide, by decide⟩)
  have HS := Lib.hid (show ∀ W, Below w2.heap.size w2 W → (W.cell? ⟨g1, 0, none⟩ = some (.int .i64 z) ∧ W.cell? ⟨g1, 1, none⟩ = some (.int .i64 d) ∧ W.cell? ⟨g1, 2, none⟩ = some (.int .i64 s) ∧ W.cell? ⟨g1, 3, none⟩ = some (.int .i64 l) ∧ W.cell? ⟨g1, 4, none⟩ = some (.int .i64 a)) ∧ Below w2.heap.size w2 W from fun W h => ⟨⟨kst h l1 GG.g0, kst h l1 GG.g1, kst h l1 GG.g2, kst h l1 GG.g3, kst h l1 GG.g4⟩, h⟩)
  clear hz8 hiv s3
  go_region_held3 (fun W => (W.cell? ⟨g1, 0, none⟩ = some (.int .i64 z) ∧ W.cell? ⟨g1, 1, none⟩ = some (.int .i64 d) ∧ W.cell? ⟨g1, 2, none⟩ = some (.int .i64 s) ∧ W.cell? ⟨g1, 3, none⟩ = some (.int .i64 l) ∧ W.cell? ⟨g1, 4, none⟩ = some (.int .i64 a)) ∧ Below w2.heap.size w2 W)
    ((refine HS.out _ ?_; first
      | with_reducible exact hb4
      | with_reducible exact bt b3 (below_dr (Below.refl _ _))
      | with_reducible exact bt b2 (below_dr (Below.refl _ _))
      | with_reducible exact below_dr (Below.refl _ _)
      | fail))
    (first
      | (go_at_call 13; (with_reducible refine HTX.out.mono ?_); rintro e w4 ⟨⟨A, c, rs, rfl, hrs, hri⟩, hb4'⟩; have hb4 : Below w2.heap.size w2 w4 := bt (bt b3 (below_dr (Below.refl _ _))) hb4')
      | fail)
  have hbx := bt hx hb4
  have GG4 := GG.keep hb4 l1
  have l4 := Nat.lt_of_lt_of_le l1 hb4.size
  clear hb4 hb4' hx l1 b2 b3 hmk HTX HS GG
  have hrl : rs.length = 2 := by
    have := congrArg List.length hrs
    rw [rds_length] at this
    exact this
  obtain ⟨bi, oi, r0, hAi, hbi, c0, c1, c2, c3, c4, c5, c6, c7, hin, -, -, e0⟩ := rec_at hri.h hri.i (show 0 < rs.length by omega)
  obtain ⟨bi', oi', r1, hAi', -, p0, -, -, p3, -, -, -, -, -, -, -, e1⟩ := rec_at hri.h hri.i (show 1 < rs.length by omega)
  change A = _ at hAi
  change A = _ at hAi'
  rw [hAi] at hAi'
  simp only [Option.some.injEq, Addr.mk.injEq, and_true] at hAi'
  obtain ⟨rfl, rfl⟩ := hAi'
  subst hAi
  rw [hrs] at e0 e1
  have d0 : r0.d = ⟨1, 3, 2, 0, 2, 0, -1, z8⟩ := (Option.some.inj e0).symm
  have d1 : r1.d = ⟨2, 3, 2, 1, 2, 0, 0, []⟩ := (Option.some.inj e1).symm
  have k0 : r0.kd = 1 := congrArg Rcd.kd d0
  have k1 : r0.sq = 3 := congrArg Rcd.sq d0
  have k2 : r0.ep = 2 := congrArg Rcd.ep d0
  have k3 : r0.ps = 0 := congrArg Rcd.ps d0
  have k4 : r0.nm = 2 := congrArg Rcd.nm d0
  have k5 : r0.i.z = 0 := congrArg Rcd.z d0
  have k6 : r0.i.wh = -1 := congrArg Rcd.wh d0
  have k7 : r0.i.l.length = 8 := by rw [show r0.i.l = z8 from congrArg Rcd.l d0]; rfl
  have m0 : r1.kd = 2 := congrArg Rcd.kd d1
  have m3 : r1.ps = 1 := congrArg Rcd.ps d1
  have hro : RecOk z d r0.d := by rw [d0]; exact wk_ok hz1 hd1.1
  obtain ⟨E, hE⟩ : ∃ E, E = encR r0.d := ⟨_, rfl⟩
  have hEl : E.length = 22 := by rw [hE, d0]; rfl
  have hEo : RdOk z d E := by rw [hE]; exact rdOk_of hro hz4 hd1
  have hEr : recN E = ⟨1, 3, 2, 0, 2, 0, -1, z8⟩ := by rw [hE, (recN_of hro hz4 hd1).1, d0]
  have HBY := Lib.hid (show ∀ W, Below w4.heap.size w4 W → Calls Try.prog 11 #[.agg #[.int .i64 z, .int .i64 d, .int .i64 s, .int .i64 l, .int .i64 a], .agg #[.int .i64 1, .int .i64 3, .int .i64 2, .int .i64 0, .int .i64 2, .int .i64 0, .int .i64 (-1), .slice r0.i.A 8 r0.i.c]] W fun e w' => (∃ (X : Option Addr) (c : Nat), e = .returned (.tuple #[.slice X 22 c, .int .i64 0]) ∧ Own w' W.heap.size 5 (.slice X 22 c) E) ∧ Below W.heap.size W w' from fun W hW => by
    have h9 := HC.out.bytes z d s l a r0 8 W (bt hbx hW) HO.out (hin.next hW) k7 hro
    rw [k0, k1, k2, k3, k4, k5, k6] at h9
    unfold BytR at h9
    rw [← hE, hEl] at h9
    exact h9)
  rw [k0, show oi + 0 * 8 = oi by omega] at c0
  rw [k1, show oi + 0 * 8 = oi by omega] at c1
  rw [k2, show oi + 0 * 8 = oi by omega] at c2
  rw [k3, show oi + 0 * 8 = oi by omega] at c3
  rw [k4, show oi + 0 * 8 = oi by omega] at c4
  rw [k5, show oi + 0 * 8 = oi by omega] at c5
  rw [k6, show oi + 0 * 8 = oi by omega] at c6
  rw [k7, show oi + 0 * 8 = oi by omega] at c7
  rw [m0, show oi + 1 * 8 = oi + 8 by omega] at p0
  rw [m3, show oi + 1 * 8 + 3 = oi + 8 + 3 by omega] at p3
  clear hrs hri hrl e0 e1 d0 d1 k0 k1 k2 k3 k4 k5 k6 k7 m0 m3 hin hro hE
  have HS := Lib.hid (show ∀ W, Below w4.heap.size w4 W → (W.cell? ⟨g1, 0, none⟩ = some (.int .i64 z) ∧ W.cell? ⟨g1, 1, none⟩ = some (.int .i64 d) ∧ W.cell? ⟨g1, 2, none⟩ = some (.int .i64 s) ∧ W.cell? ⟨g1, 3, none⟩ = some (.int .i64 l) ∧ W.cell? ⟨g1, 4, none⟩ = some (.int .i64 a)) ∧ (W.cell? ⟨bi, oi, none⟩ = some (.int .i64 1) ∧ W.cell? ⟨bi, oi + 1, none⟩ = some (.int .i64 3) ∧ W.cell? ⟨bi, oi + 2, none⟩ = some (.int .i64 2) ∧ W.cell? ⟨bi, oi + 3, none⟩ = some (.int .i64 0) ∧ W.cell? ⟨bi, oi + 4, none⟩ = some (.int .i64 2) ∧ W.cell? ⟨bi, oi + 5, none⟩ = some (.int .i64 0) ∧ W.cell? ⟨bi, oi + 6, none⟩ = some (.int .i64 (-1)) ∧ W.cell? ⟨bi, oi + 7, none⟩ = some (.slice r0.i.A 8 r0.i.c)) ∧ Below w4.heap.size w4 W from fun W h => ⟨⟨kst h l4 GG4.g0, kst h l4 GG4.g1, kst h l4 GG4.g2, kst h l4 GG4.g3, kst h l4 GG4.g4⟩, ⟨kst h hbi c0, kst h hbi c1, kst h hbi c2, kst h hbi c3, kst h hbi c4, kst h hbi c5, kst h hbi c6, kst h hbi c7⟩, h⟩)
  go_upto_region 5 with fail
  go_region_held3 (fun W => (W.cell? ⟨g1, 0, none⟩ = some (.int .i64 z) ∧ W.cell? ⟨g1, 1, none⟩ = some (.int .i64 d) ∧ W.cell? ⟨g1, 2, none⟩ = some (.int .i64 s) ∧ W.cell? ⟨g1, 3, none⟩ = some (.int .i64 l) ∧ W.cell? ⟨g1, 4, none⟩ = some (.int .i64 a)) ∧ (W.cell? ⟨bi, oi, none⟩ = some (.int .i64 1) ∧ W.cell? ⟨bi, oi + 1, none⟩ = some (.int .i64 3) ∧ W.cell? ⟨bi, oi + 2, none⟩ = some (.int .i64 2) ∧ W.cell? ⟨bi, oi + 3, none⟩ = some (.int .i64 0) ∧ W.cell? ⟨bi, oi + 4, none⟩ = some (.int .i64 2) ∧ W.cell? ⟨bi, oi + 5, none⟩ = some (.int .i64 0) ∧ W.cell? ⟨bi, oi + 6, none⟩ = some (.int .i64 (-1)) ∧ W.cell? ⟨bi, oi + 7, none⟩ = some (.slice r0.i.A 8 r0.i.c)) ∧ Below w4.heap.size w4 W)
    ((refine HS.out _ ?_; first
      | with_reducible exact hb5
      | with_reducible exact below_dr (Below.refl _ _)
      | fail))
    (first
      | (go_at_call 11; (with_reducible refine (HBY.out _ (below_dr (Below.refl _ _))).mono ?_); rintro e w5 ⟨⟨X, xc, rfl, hxo⟩, hb5'⟩; have hb5 : Below w4.heap.size w4 w5 := bt (below_dr (Below.refl _ _)) hb5')
      | fail)
  have hbx5 := bt hbx hb5
  have GG5 := GG4.keep hb5 l4
  have l5 := Nat.lt_of_lt_of_le l4 hb5.size
  have p05 := kst hb5 hbi p0
  have p35 := kst hb5 hbi p3
  have hbi5 := Nat.lt_of_lt_of_le hbi hb5.size
  obtain ⟨-, hxc1, hxc2, hxs⟩ := own_bytes hxo
  have HRD := Lib.hid (show Calls Try.prog 12 #[.agg #[.int .i64 z, .int .i64 d, .int .i64 s, .int .i64 l, .int .i64 a], .slice X 22 xc] w5 fun e w' => (∃ (Y : Option Addr) (c : Nat), e = .returned (.tuple #[.agg #[.int .i64 1, .int .i64 3, .int .i64 2, .int .i64 0, .int .i64 2, .int .i64 0, .int .i64 (-1), .slice Y 8 c], .int .i64 0]) ∧ Own w' w5.heap.size 5 (.slice Y 8 c) z8) ∧ Below w5.heap.size w5 w' from by
    have h9 := HC.out.read z d s l a X 22 xc E w5 hbx5 HO.out hEl hxc1 hxc2 (by decide) hxs hEo
    rw [hEr] at h9
    exact h9)
  clear hb5 hb5' hxo hxc1 hxc2 hxs HBY HS GG4 l4 c0 c1 c2 c3 c4 c5 c6 c7 p0 p3 hbx hEl hEo hEr hbi
  obtain ⟨x0, x1, x2, x3, x4⟩ := id GG5
  go_upto_region 7 with (go_at_call 12; (with_reducible refine HRD.out.mono ?_); rintro e w6 ⟨⟨Y, yc, rfl, hyo⟩, hb6⟩)
  have hxY := bl w6 (.cells #[.int .i64 1, .int .i64 3, .int .i64 2, .int .i64 0, .int .i64 2, .int .i64 0, .int .i64 (-1), .slice Y 8 yc] 28)
  have YY := c8_new w6 (.int .i64 1) (.int .i64 3) (.int .i64 2) (.int .i64 0) (.int .i64 2) (.int .i64 0) (.int .i64 (-1)) (.slice Y 8 yc) 28
  have b67 := bt hb6 hxY
  have GG7 := GG5.keep b67 l5
  have p07 := kst b67 hbi5 p05
  have p37 := kst b67 hbi5 p35
  have hbx7 := bt hbx5 b67
  clear hb6 hxY hyo b67 GG5 l5 p05 p35 hbx5 hbi5 HRD x0 x1 x2 x3 x4
  generalize w6.alloc (.cells #[.int .i64 1, .int .i64 3, .int .i64 2, .int .i64 0, .int .i64 2, .int .i64 0, .int .i64 (-1), .slice Y 8 yc] 28) = w7 at *
  obtain ⟨x0, x1, x2, x3, x4⟩ := id GG7
  obtain ⟨y0, y1, -, -, -, -, y6, -⟩ := id YY
  have HCK := Lib.hid (show Calls Try.prog 17 #[.agg #[.int .i64 z, .int .i64 d, .int .i64 s, .int .i64 l, .int .i64 a], .agg #[.int .i64 0, .int .i64 1, .int .i64 0, .int .i64 0, .int .i64 0, .int .i64 0, .int .i64 0, .slice none 0 0]] w7 fun e w' => e = .returned (.int .i64 1) ∧ Below w7.heap.size w7 w' from HC.out.check false z d s l a ⟨0, 1, 0, 0, 0, ⟨0, 0, none, 0, []⟩⟩ 0 w7 hbx7 ⟨Sl.nil _ _ _, Nat.le_refl 0, Nat.zero_le _⟩ rfl (by decide) (iff_of_false Bool.false_ne_true fun h => wk_not h.2))
  clear YY GG7 HO HC
  go_wp2_with (go_at_call 17; (with_reducible refine HCK.out.mono ?_); rintro e w8 ⟨rfl, hb8⟩)
  go_ret
  exact ⟨rfl, bt hbx7 hb8⟩
end Go.Proofs.Ytplhdnhigboeaaa.lrc
