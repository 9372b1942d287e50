/-
  The law StripeImages, walked. Conditions: 'Cst'.
-/
import Derived.Test.YthdahdopejapmaaStQ
import Derived.Test.YthdahdopejapmaaDkQ
import Derived.Deep.RegionHeld3
import Derived.Test.YthdahdopejapmaaTbW
namespace Go.Proofs.Ythdahdopejapmaa.stp
open Go.RowKit Go.Lib
open Go.Proofs.Ythdahdopejapmaa.gmt (Ok)
open Go.Proofs.Ythdahdopejapmaa.anc (bl kal kst ks bm ka)
open Go.Proofs.Ythdahdopejapmaa.tbl (Ent EntOk C1 c1_new G5 g5_new OwnE)
open Go.Proofs.Ythdahdopejapmaa.par (zx zeros zeros_length zx_length)
open Go.Proofs.Ythdahdopejapmaa.zon
open Go.Proofs.Ythdahdopejapmaa.img
set_option maxRecDepth 100000 in
set_option maxHeartbeats 16000000 in
theorem im_heavy (z s l a zn : Int) (d : Int) (x : tbl.TV) (N : Nat) (pA : Option Addr) (pn pc : Nat) (p : List UInt8) (aA : Option Addr) (ac : Nat) (ats : List Int) (m : Nat) (bA : Option Addr) (bc : Nat) (br : List Row) (k : Nat) (w : World) (hc : Cst w) (hN : x.es.length = N) (hx : x.In w w.heap.size) (hpn : p.length = pn) (hp : Sl w w.heap.size pA p) (hpc : pn ≤ pc ∧ pc ≤ maxLen) (hm : ats.length = m) (ha : NV.In w w.heap.size ⟨aA, ac, ats⟩) (hk : br.length = k) (hb : LV.In w w.heap.size ⟨bA, bc, br⟩) (hv : (20 < N ∨ 20 < k ∨ ∃ y ∈ lists br, 100 < y.length) ∨ 20 < m ∨ 100 < pn) :
    Calls Try.prog 7 #[.agg #[.int .i64 z, .int .i64 d, .int .i64 s, .int .i64 l, .int .i64 a], .int .i64 zn, .agg #[.slice x.A N x.c], .slice pA pn pc, .slice aA m ac, .slice bA k bc] w fun e w' => e = .returned (.bool true) ∧ Below w.heap.size w w' := by
  by_cases h1 : 20 < N ∨ 20 < k ∨ ∃ y ∈ lists br, 100 < y.length
  · have s1 : (w.alloc (.cells #[.int .i64 z, .int .i64 d, .int .i64 s, .int .i64 l, .int .i64 a] 23)).heap.size = w.heap.size + 1 := by simp
    have hx2 := anc.bl (w.alloc (.cells #[.int .i64 z, .int .i64 d, .int .i64 s, .int .i64 l, .int .i64 a] 23)) (.cells #[.slice x.A N x.c] 26)
    have GG := (g5_new w z d s l a).keep hx2 (by omega)
    have TT := c1_new (w.alloc (.cells #[.int .i64 z, .int .i64 d, .int .i64 s, .int .i64 l, .int .i64 a] 23)) (.slice x.A N x.c) 26
    rw [s1] at TT
    have hw := kal (anc.bl w (.cells #[.int .i64 z, .int .i64 d, .int .i64 s, .int .i64 l, .int .i64 a] 23)) (.cells #[.slice x.A N x.c] 26)
    have lT : w.heap.size + 1 < ((w.alloc (.cells #[.int .i64 z, .int .i64 d, .int .i64 s, .int .i64 l, .int .i64 a] 23)).alloc (.cells #[.slice x.A N x.c] 26)).heap.size := by simp
    have HC := Lib.hid hc
    have HAI := Lib.hid (ha.next hw)
    have HAM := Lib.hid hm
    have HBI := Lib.hid (hb.next hw)
    have HBK := Lib.hid hk
    have HXI := Lib.hid (hx.next hw)
    have HNE := Lib.hid hN
    have HPI := Lib.hid (hp.next hw)
    have HPN := Lib.hid hpn
    have HPC := Lib.hid hpc
    clear hc hm ha hk hb hN hx hpn hp hpc s1 hx2
    go_enter Try.func7, Try.ntmps7
    go_upto_region 1 with fail
    generalize ((w.alloc (.cells #[.int .i64 z, .int .i64 d, .int .i64 s, .int .i64 l, .int .i64 a] 23)).alloc (.cells #[.slice x.A N x.c] 26)) = w2 at *
    obtain ⟨g0, g1', g2, g3, g4⟩ := id GG
    have t0 := TT.c0
    have HHV := Lib.hid (heavy_c true x.A bA N x.c k bc br w2 HBK.out HBI.out.h HBI.out.r (iff_of_true rfl h1))
    clear hv h1
    have HMG := Lib.hid (show ∀ W, Below w2.heap.size w2 W → (W.cell? ⟨w.heap.size, 0, none⟩ = some (.int .i64 z) ∧ W.cell? ⟨w.heap.size, 1, none⟩ = some (.int .i64 d) ∧ W.cell? ⟨w.heap.size, 2, none⟩ = some (.int .i64 s) ∧ W.cell? ⟨w.heap.size, 3, none⟩ = some (.int .i64 l) ∧ W.cell? ⟨w.heap.size, 4, none⟩ = some (.int .i64 a)) ∧ W.cell? ⟨w.heap.size + 1, 0, none⟩ = some (.slice x.A N x.c) from fun W h => ⟨⟨kst h (by omega) g0, kst h (by omega) g1', kst h (by omega) g2, kst h (by omega) g3, kst h (by omega) g4⟩, kst h lT t0⟩)
    go_wp2_with (go_at_call 8; (with_reducible refine HHV.out.mono ?_); rintro e w3 ⟨rfl, hb3⟩; clear g0 g1' g2 g3 g4 t0; obtain ⟨⟨g0, g1', g2, g3, g4⟩, t0⟩ := HMG.out _ hb3)
    go_ret
    exact ⟨rfl, bt hw hb3⟩
  have h2 : 20 < m ∨ 100 < pn := hv.resolve_left h1
  have s1 : (w.alloc (.cells #[.int .i64 z, .int .i64 d, .int .i64 s, .int .i64 l, .int .i64 a] 23)).heap.size = w.heap.size + 1 := by simp
  have hx2 := anc.bl (w.alloc (.cells #[.int .i64 z, .int .i64 d, .int .i64 s, .int .i64 l, .int .i64 a] 23)) (.cells #[.slice x.A N x.c] 26)
  have GG := (g5_new w z d s l a).keep hx2 (by omega)
  have TT := c1_new (w.alloc (.cells #[.int .i64 z, .int .i64 d, .int .i64 s, .int .i64 l, .int .i64 a] 23)) (.slice x.A N x.c) 26
  rw [s1] at TT
  have hw := kal (anc.bl w (.cells #[.int .i64 z, .int .i64 d, .int .i64 s, .int .i64 l, .int .i64 a] 23)) (.cells #[.slice x.A N x.c] 26)
  have lT : w.heap.size + 1 < ((w.alloc (.cells #[.int .i64 z, .int .i64 d, .int .i64 s, .int .i64 l, .int .i64 a] 23)).alloc (.cells #[.slice x.A N x.c] 26)).heap.size := by simp
  have HC := Lib.hid hc
  have HAI := Lib.hid (ha.next hw)
  have HAM := Lib.hid hm
  have HBI := Lib.hid (hb.next hw)
  have HBK := Lib.hid hk
  have HXI := Lib.hid (hx.next hw)
  have HNE := Lib.hid hN
  have HPI := Lib.hid (hp.next hw)
  have HPN := Lib.hid hpn
  have HPC := Lib.hid hpc
  clear hc hm ha hk hb hN hx hpn hp hpc s1 hx2
  go_enter Try.func7, Try.ntmps7
  go_upto_region 1 with fail
  generalize ((w.alloc (.cells #[.int .i64 z, .int .i64 d, .int .i64 s, .int .i64 l, .int .i64 a] 23)).alloc (.cells #[.slice x.A N x.c] 26)) = w2 at *
  obtain ⟨g0, g1', g2, g3, g4⟩ := id GG
  have t0 := TT.c0
  have HHV := Lib.hid (heavy_c false x.A bA N x.c k bc br w2 HBK.out HBI.out.h HBI.out.r (iff_of_false Bool.false_ne_true h1))
  have h3 : (20 : Int) < (m : Int) ∨ ¬ (20 : Int) < (m : Int) ∧ (100 : Int) < (pn : Int) := by omega
  clear hv h1 h2
  have HMG := Lib.hid (show ∀ W, Below w2.heap.size w2 W → (W.cell? ⟨w.heap.size, 0, none⟩ = some (.int .i64 z) ∧ W.cell? ⟨w.heap.size, 1, none⟩ = some (.int .i64 d) ∧ W.cell? ⟨w.heap.size, 2, none⟩ = some (.int .i64 s) ∧ W.cell? ⟨w.heap.size, 3, none⟩ = some (.int .i64 l) ∧ W.cell? ⟨w.heap.size, 4, none⟩ = some (.int .i64 a)) ∧ W.cell? ⟨w.heap.size + 1, 0, none⟩ = some (.slice x.A N x.c) from fun W h => ⟨⟨kst h (by omega) g0, kst h (by omega) g1', kst h (by omega) g2, kst h (by omega) g3, kst h (by omega) g4⟩, kst h lT t0⟩)
  rcases h3 with h3 | ⟨h3, h4⟩
  all_goals
    go_wp2_with (go_at_call 8; (with_reducible refine HHV.out.mono ?_); rintro e w3 ⟨rfl, hb3⟩; clear g0 g1' g2 g3 g4 t0; obtain ⟨⟨g0, g1', g2, g3, g4⟩, t0⟩ := HMG.out _ hb3)
    go_ret
    exact ⟨rfl, bt hw hb3⟩
set_option maxRecDepth 100000 in
set_option maxHeartbeats 16000000 in
theorem im_no (v : Int) (z s l a zn : Int) (d : Int) (x : tbl.TV) (N : Nat) (pA : Option Addr) (pn pc : Nat) (p : List UInt8) (aA : Option Addr) (ac : Nat) (ats : List Int) (m : Nat) (bA : Option Addr) (bc : Nat) (br : List Row) (k : Nat) (w : World) (hc : Cst w) (hN : x.es.length = N) (hx : x.In w w.heap.size) (hpn : p.length = pn) (hp : Sl w w.heap.size pA p) (hpc : pn ≤ pc ∧ pc ≤ maxLen) (hm : ats.length = m) (ha : NV.In w w.heap.size ⟨aA, ac, ats⟩) (hk : br.length = k) (hb : LV.In w w.heap.size ⟨bA, bc, br⟩) (hv : ¬ ((20 < N ∨ 20 < k ∨ ∃ y ∈ lists br, 100 < y.length) ∨ 20 < m ∨ 100 < pn)) (hy : ImWhy z d s l a x.es ats (lists br) p zn v) (hv0 : v ≠ 0) :
    Calls Try.prog 7 #[.agg #[.int .i64 z, .int .i64 d, .int .i64 s, .int .i64 l, .int .i64 a], .int .i64 zn, .agg #[.slice x.A N x.c], .slice pA pn pc, .slice aA m ac, .slice bA k bc] w fun e w' => e = .returned (.bool true) ∧ Below w.heap.size w w' := by
  have s1 : (w.alloc (.cells #[.int .i64 z, .int .i64 d, .int .i64 s, .int .i64 l, .int .i64 a] 23)).heap.size = w.heap.size + 1 := by simp
  have hx2 := anc.bl (w.alloc (.cells #[.int .i64 z, .int .i64 d, .int .i64 s, .int .i64 l, .int .i64 a] 23)) (.cells #[.slice x.A N x.c] 26)
  have GG := (g5_new w z d s l a).keep hx2 (by omega)
  have TT := c1_new (w.alloc (.cells #[.int .i64 z, .int .i64 d, .int .i64 s, .int .i64 l, .int .i64 a] 23)) (.slice x.A N x.c) 26
  rw [s1] at TT
  have hw := kal (anc.bl w (.cells #[.int .i64 z, .int .i64 d, .int .i64 s, .int .i64 l, .int .i64 a] 23)) (.cells #[.slice x.A N x.c] 26)
  have lT : w.heap.size + 1 < ((w.alloc (.cells #[.int .i64 z, .int .i64 d, .int .i64 s, .int .i64 l, .int .i64 a] 23)).alloc (.cells #[.slice x.A N x.c] 26)).heap.size := by simp
  have HC := Lib.hid hc
  have HAI := Lib.hid (ha.next hw)
  have HAM := Lib.hid hm
  have HBI := Lib.hid (hb.next hw)
  have HBK := Lib.hid hk
  have HXI := Lib.hid (hx.next hw)
  have HNE := Lib.hid hN
  have HPI := Lib.hid (hp.next hw)
  have HPN := Lib.hid hpn
  have HPC := Lib.hid hpc
  clear hc hm ha hk hb hN hx hpn hp hpc s1 hx2
  go_enter Try.func7, Try.ntmps7
  go_upto_region 1 with fail
  generalize ((w.alloc (.cells #[.int .i64 z, .int .i64 d, .int .i64 s, .int .i64 l, .int .i64 a] 23)).alloc (.cells #[.slice x.A N x.c] 26)) = w2 at *
  obtain ⟨g0, g1', g2, g3, g4⟩ := id GG
  have t0 := TT.c0
  have HHV := Lib.hid (heavy_c false x.A bA N x.c k bc br w2 HBK.out HBI.out.h HBI.out.r (iff_of_false Bool.false_ne_true fun h => hv (.inl h)))
  have h2 : ¬ (20 : Int) < (m : Int) := by omega
  have h3 : ¬ (100 : Int) < (pn : Int) := by omega
  have q : (v != 0) = true := bne_iff_ne.2 hv0
  have HY := Lib.hid hy
  have hN20 : N ≤ 20 := by omega
  have hk20 : k ≤ 20 := by omega
  have HIM := Lib.hid (show ∀ W, Below w2.heap.size w2 W → Calls Try.prog 12 #[.agg #[.int .i64 z, .int .i64 d, .int .i64 s, .int .i64 l, .int .i64 a], .int .i64 zn, .agg #[.slice x.A N x.c], .slice pA pn pc, .slice aA m ac, .slice bA k bc] W fun e w' => tbl.NonE v e ∧ Below W.heap.size W w' from fun W hW => HC.out.images_no v z d s l a zn x N pA pn pc p ⟨aA, ac, ats⟩ m ⟨bA, bc, br⟩ k W (bt hw hW) HY.out (HXI.out.next hW) HNE.out (by omega) (HPI.out.next hW) HPN.out HPC.out (HAI.out.next hW) HAM.out (by omega) (HBI.out.next hW) HBK.out (by omega))
  have HWK := Lib.hid (show ∀ W, Below w2.heap.size w2 W → Calls Try.prog 17 #[] W fun e w' => e = .returned (.bool true) ∧ Below W.heap.size W w' from fun W hW => wk_stp W (HC.out.next (bt hw hW)))
  clear hv hy hv0 hN20 hk20
  have HMG := Lib.hid (show ∀ W, Below w2.heap.size w2 W → (W.cell? ⟨w.heap.size, 0, none⟩ = some (.int .i64 z) ∧ W.cell? ⟨w.heap.size, 1, none⟩ = some (.int .i64 d) ∧ W.cell? ⟨w.heap.size, 2, none⟩ = some (.int .i64 s) ∧ W.cell? ⟨w.heap.size, 3, none⟩ = some (.int .i64 l) ∧ W.cell? ⟨w.heap.size, 4, none⟩ = some (.int .i64 a)) ∧ W.cell? ⟨w.heap.size + 1, 0, none⟩ = some (.slice x.A N x.c) from fun W h => ⟨⟨kst h (by omega) g0, kst h (by omega) g1', kst h (by omega) g2, kst h (by omega) g3, kst h (by omega) g4⟩, kst h lT t0⟩)
  go_wp2_with (first
    | (go_at_call 8; (with_reducible refine HHV.out.mono ?_); rintro e w3 ⟨rfl, hb3⟩; clear g0 g1' g2 g3 g4 t0; obtain ⟨⟨g0, g1', g2, g3, g4⟩, t0⟩ := HMG.out _ hb3)
    | (go_at_call 12; (with_reducible refine (HIM.out _ hb3).mono ?_); rintro e w4 ⟨⟨X, c, rfl⟩, hb4⟩; have hb34 := bt hb3 hb4)
    | (go_at_call 17; (with_reducible refine (HWK.out _ hb34).mono ?_); rintro e w5 ⟨rfl, hb5⟩))
  go_ret
  exact ⟨rfl, bt hw (bt hb34 hb5)⟩
end Go.Proofs.Ythdahdopejapmaa.stp
