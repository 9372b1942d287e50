/-
  The law StripeExact: what is more than the law plays. Conditions: 'Cst'.
-/
import Derived.Test.YthdahdopejapmaaStQ
import Derived.Test.YthdahdopejapmaaDkQ
import Derived.Deep.RegionHeld3
import Derived.Test.YthdahdopejapmaaStS
namespace Go.Proofs.Ythdahdopejapmaa.stp
open Go.RowKit Go.Lib
open Go.Proofs.Ythdahdopejapmaa.gmt (Ok)
open Go.Proofs.Ythdahdopejapmaa.anc (bl kal kst ks bm ka)
open Go.Proofs.Ythdahdopejapmaa.tbl (Ent EntOk C1 c1_new G5 g5_new OwnE)
open Go.Proofs.Ythdahdopejapmaa.par (zx zeros zeros_length zx_length)
open Go.Proofs.Ythdahdopejapmaa.zon
open Go.Proofs.Ythdahdopejapmaa.img
set_option maxRecDepth 100000 in
set_option maxHeartbeats 16000000 in
theorem ex_heavy1 (z s l a st zn : Int) (d : Int) (x : tbl.TV) (N : Nat) (hA : Option Addr) (hq : Nat) (hr : List Row) (n : Nat) (aA : Option Addr) (ac : Nat) (ats : List Int) (m : Nat) (bA : Option Addr) (bc : Nat) (br : List Row) (k : Nat) (pA : Option Addr) (pn pc : Nat) (p : List UInt8) (w : World) (hc : Cst w) (hN : x.es.length = N) (hx : x.In w w.heap.size) (hn : hr.length = n) (hh : LV.In w w.heap.size ⟨hA, hq, hr⟩) (hm : ats.length = m) (ha : NV.In w w.heap.size ⟨aA, ac, ats⟩) (hk : br.length = k) (hb : LV.In w w.heap.size ⟨bA, bc, br⟩) (hpn : p.length = pn) (hp : Sl w w.heap.size pA p) (hpc : pn ≤ pc ∧ pc ≤ maxLen) (h1 : 20 < N ∨ 20 < n ∨ ∃ y ∈ lists hr, 100 < y.length) :
    Calls Try.prog 3 #[.agg #[.int .i64 z, .int .i64 d, .int .i64 s, .int .i64 l, .int .i64 a], .agg #[.slice x.A N x.c], .slice hA n hq, .slice aA m ac, .slice bA k bc, .int .i64 st, .int .i64 zn, .slice pA pn pc] w fun e w' => e = .returned (.bool true) ∧ Below w.heap.size w w' := by
  have s1 : (w.alloc (.cells #[.int .i64 z, .int .i64 d, .int .i64 s, .int .i64 l, .int .i64 a] 23)).heap.size = w.heap.size + 1 := by simp
  have hx2 := anc.bl (w.alloc (.cells #[.int .i64 z, .int .i64 d, .int .i64 s, .int .i64 l, .int .i64 a] 23)) (.cells #[.slice x.A N x.c] 26)
  have GG := (g5_new w z d s l a).keep hx2 (by omega)
  have TT := c1_new (w.alloc (.cells #[.int .i64 z, .int .i64 d, .int .i64 s, .int .i64 l, .int .i64 a] 23)) (.slice x.A N x.c) 26
  rw [s1] at TT
  have hw := kal (anc.bl w (.cells #[.int .i64 z, .int .i64 d, .int .i64 s, .int .i64 l, .int .i64 a] 23)) (.cells #[.slice x.A N x.c] 26)
  have lT : w.heap.size + 1 < ((w.alloc (.cells #[.int .i64 z, .int .i64 d, .int .i64 s, .int .i64 l, .int .i64 a] 23)).alloc (.cells #[.slice x.A N x.c] 26)).heap.size := by simp
  have HC := Lib.hid hc
  have HAI := Lib.hid (ha.next hw)
  have HAM := Lib.hid hm
  have HBI := Lib.hid (hb.next hw)
  have HBK := Lib.hid hk
  have HHI := Lib.hid (hh.next hw)
  have HHn := Lib.hid hn
  have HXI := Lib.hid (hx.next hw)
  have HNE := Lib.hid hN
  have HPI := Lib.hid (hp.next hw)
  have HPN := Lib.hid hpn
  have HPC := Lib.hid hpc
  clear hc hm ha hk hb hn hh hN hx hpn hp hpc s1 hx2
  go_enter Try.func3, Try.ntmps3
  go_upto_region 1 with fail
  generalize ((w.alloc (.cells #[.int .i64 z, .int .i64 d, .int .i64 s, .int .i64 l, .int .i64 a] 23)).alloc (.cells #[.slice x.A N x.c] 26)) = w2 at *
  obtain ⟨g0, g1', g2, g3, g4⟩ := id GG
  have t0 := TT.c0
  have HH1 := Lib.hid (heavy_c true x.A hA N x.c n hq hr w2 HHn.out HHI.out.h HHI.out.r (iff_of_true rfl h1))
  clear h1
  have HMG := Lib.hid (show ∀ W, Below w2.heap.size w2 W → (W.cell? ⟨w.heap.size, 0, none⟩ = some (.int .i64 z) ∧ W.cell? ⟨w.heap.size, 1, none⟩ = some (.int .i64 d) ∧ W.cell? ⟨w.heap.size, 2, none⟩ = some (.int .i64 s) ∧ W.cell? ⟨w.heap.size, 3, none⟩ = some (.int .i64 l) ∧ W.cell? ⟨w.heap.size, 4, none⟩ = some (.int .i64 a)) ∧ W.cell? ⟨w.heap.size + 1, 0, none⟩ = some (.slice x.A N x.c) from fun W h => ⟨⟨kst h (by omega) g0, kst h (by omega) g1', kst h (by omega) g2, kst h (by omega) g3, kst h (by omega) g4⟩, kst h lT t0⟩)
  go_wp2_with (go_at_call 8; (with_reducible refine HH1.out.mono ?_); rintro e w3 ⟨rfl, hb3⟩; clear g0 g1' g2 g3 g4 t0; obtain ⟨⟨g0, g1', g2, g3, g4⟩, t0⟩ := HMG.out _ hb3)
  go_ret
  exact ⟨rfl, bt hw hb3⟩
set_option maxRecDepth 100000 in
set_option maxHeartbeats 16000000 in
theorem ex_heavy2 (z s l a st zn : Int) (d : Int) (x : tbl.TV) (N : Nat) (hA : Option Addr) (hq : Nat) (hr : List Row) (n : Nat) (aA : Option Addr) (ac : Nat) (ats : List Int) (m : Nat) (bA : Option Addr) (bc : Nat) (br : List Row) (k : Nat) (pA : Option Addr) (pn pc : Nat) (p : List UInt8) (w : World) (hc : Cst w) (hN : x.es.length = N) (hx : x.In w w.heap.size) (hn : hr.length = n) (hh : LV.In w w.heap.size ⟨hA, hq, hr⟩) (hm : ats.length = m) (ha : NV.In w w.heap.size ⟨aA, ac, ats⟩) (hk : br.length = k) (hb : LV.In w w.heap.size ⟨bA, bc, br⟩) (hpn : p.length = pn) (hp : Sl w w.heap.size pA p) (hpc : pn ≤ pc ∧ pc ≤ maxLen) (h1 : ¬ (20 < N ∨ 20 < n ∨ ∃ y ∈ lists hr, 100 < y.length)) (h2 : 20 < N ∨ 20 < k ∨ ∃ y ∈ lists br, 100 < y.length) :
    Calls Try.prog 3 #[.agg #[.int .i64 z, .int .i64 d, .int .i64 s, .int .i64 l, .int .i64 a], .agg #[.slice x.A N x.c], .slice hA n hq, .slice aA m ac, .slice bA k bc, .int .i64 st, .int .i64 zn, .slice pA pn pc] w fun e w' => e = .returned (.bool true) ∧ Below w.heap.size w w' := by
  have s1 : (w.alloc (.cells #[.int .i64 z, .int .i64 d, .int .i64 s, .int .i64 l, .int .i64 a] 23)).heap.size = w.heap.size + 1 := by simp
  have hx2 := anc.bl (w.alloc (.cells #[.int .i64 z, .int .i64 d, .int .i64 s, .int .i64 l, .int .i64 a] 23)) (.cells #[.slice x.A N x.c] 26)
  have GG := (g5_new w z d s l a).keep hx2 (by omega)
  have TT := c1_new (w.alloc (.cells #[.int .i64 z, .int .i64 d, .int .i64 s, .int .i64 l, .int .i64 a] 23)) (.slice x.A N x.c) 26
  rw [s1] at TT
  have hw := kal (anc.bl w (.cells #[.int .i64 z, .int .i64 d, .int .i64 s, .int .i64 l, .int .i64 a] 23)) (.cells #[.slice x.A N x.c] 26)
  have lT : w.heap.size + 1 < ((w.alloc (.cells #[.int .i64 z, .int .i64 d, .int .i64 s, .int .i64 l, .int .i64 a] 23)).alloc (.cells #[.slice x.A N x.c] 26)).heap.size := by simp
  have HC := Lib.hid hc
  have HAI := Lib.hid (ha.next hw)
  have HAM := Lib.hid hm
  have HBI := Lib.hid (hb.next hw)
  have HBK := Lib.hid hk
  have HHI := Lib.hid (hh.next hw)
  have HHn := Lib.hid hn
  have HXI := Lib.hid (hx.next hw)
  have HNE := Lib.hid hN
  have HPI := Lib.hid (hp.next hw)
  have HPN := Lib.hid hpn
  have HPC := Lib.hid hpc
  clear hc hm ha hk hb hn hh hN hx hpn hp hpc s1 hx2
  go_enter Try.func3, Try.ntmps3
  go_upto_region 1 with fail
  generalize ((w.alloc (.cells #[.int .i64 z, .int .i64 d, .int .i64 s, .int .i64 l, .int .i64 a] 23)).alloc (.cells #[.slice x.A N x.c] 26)) = w2 at *
  obtain ⟨g0, g1', g2, g3, g4⟩ := id GG
  have t0 := TT.c0
  have HH1 := Lib.hid (heavy_c false x.A hA N x.c n hq hr w2 HHn.out HHI.out.h HHI.out.r (iff_of_false Bool.false_ne_true h1))
  have HH2 := Lib.hid (show ∀ W, Below w2.heap.size w2 W → Calls Try.prog 8 #[.agg #[.slice x.A N x.c], .slice bA k bc] W fun e w' => e = .returned (.bool true) ∧ Below W.heap.size W w' from fun W hW => heavy_c true x.A bA N x.c k bc br W HBK.out (HBI.out.next hW).h (HBI.out.next hW).r (iff_of_true rfl h2))
  clear h1 h2
  have HMG := Lib.hid (show ∀ W, Below w2.heap.size w2 W → (W.cell? ⟨w.heap.size, 0, none⟩ = some (.int .i64 z) ∧ W.cell? ⟨w.heap.size, 1, none⟩ = some (.int .i64 d) ∧ W.cell? ⟨w.heap.size, 2, none⟩ = some (.int .i64 s) ∧ W.cell? ⟨w.heap.size, 3, none⟩ = some (.int .i64 l) ∧ W.cell? ⟨w.heap.size, 4, none⟩ = some (.int .i64 a)) ∧ W.cell? ⟨w.heap.size + 1, 0, none⟩ = some (.slice x.A N x.c) from fun W h => ⟨⟨kst h (by omega) g0, kst h (by omega) g1', kst h (by omega) g2, kst h (by omega) g3, kst h (by omega) g4⟩, kst h lT t0⟩)
  go_wp2_with (first
    | (go_at_call 8; (with_reducible refine HH1.out.mono ?_); rintro e w3 ⟨rfl, hb3⟩; clear g0 g1' g2 g3 g4 t0; obtain ⟨⟨g0, g1', g2, g3, g4⟩, t0⟩ := HMG.out _ hb3)
    | (go_at_call 8; (with_reducible refine (HH2.out _ hb3).mono ?_); rintro e w3' ⟨rfl, hb3'⟩; replace hb3 := bt hb3 hb3'; clear g0 g1' g2 g3 g4 t0; obtain ⟨⟨g0, g1', g2, g3, g4⟩, t0⟩ := HMG.out _ hb3))
  go_ret
  exact ⟨rfl, bt hw hb3⟩
set_option maxRecDepth 100000 in
set_option maxHeartbeats 16000000 in
theorem ex_heavy3 (z s l a st zn : Int) (d : Int) (x : tbl.TV) (N : Nat) (hA : Option Addr) (hq : Nat) (hr : List Row) (n : Nat) (aA : Option Addr) (ac : Nat) (ats : List Int) (m : Nat) (bA : Option Addr) (bc : Nat) (br : List Row) (k : Nat) (pA : Option Addr) (pn pc : Nat) (p : List UInt8) (w : World) (hc : Cst w) (hN : x.es.length = N) (hx : x.In w w.heap.size) (hn : hr.length = n) (hh : LV.In w w.heap.size ⟨hA, hq, hr⟩) (hm : ats.length = m) (ha : NV.In w w.heap.size ⟨aA, ac, ats⟩) (hk : br.length = k) (hb : LV.In w w.heap.size ⟨bA, bc, br⟩) (hpn : p.length = pn) (hp : Sl w w.heap.size pA p) (hpc : pn ≤ pc ∧ pc ≤ maxLen) (h1 : ¬ (20 < N ∨ 20 < n ∨ ∃ y ∈ lists hr, 100 < y.length)) (h2 : ¬ (20 < N ∨ 20 < k ∨ ∃ y ∈ lists br, 100 < y.length)) (h3 : 20 < m ∨ 100 < pn) :
    Calls Try.prog 3 #[.agg #[.int .i64 z, .int .i64 d, .int .i64 s, .int .i64 l, .int .i64 a], .agg #[.slice x.A N x.c], .slice hA n hq, .slice aA m ac, .slice bA k bc, .int .i64 st, .int .i64 zn, .slice pA pn pc] w fun e w' => e = .returned (.bool true) ∧ Below w.heap.size w w' := by
  have s1 : (w.alloc (.cells #[.int .i64 z, .int .i64 d, .int .i64 s, .int .i64 l, .int .i64 a] 23)).heap.size = w.heap.size + 1 := by simp
  have hx2 := anc.bl (w.alloc (.cells #[.int .i64 z, .int .i64 d, .int .i64 s, .int .i64 l, .int .i64 a] 23)) (.cells #[.slice x.A N x.c] 26)
  have GG := (g5_new w z d s l a).keep hx2 (by omega)
  have TT := c1_new (w.alloc (.cells #[.int .i64 z, .int .i64 d, .int .i64 s, .int .i64 l, .int .i64 a] 23)) (.slice x.A N x.c) 26
  rw [s1] at TT
  have hw := kal (anc.bl w (.cells #[.int .i64 z, .int .i64 d, .int .i64 s, .int .i64 l, .int .i64 a] 23)) (.cells #[.slice x.A N x.c] 26)
  have lT : w.heap.size + 1 < ((w.alloc (.cells #[.int .i64 z, .int .i64 d, .int .i64 s, .int .i64 l, .int .i64 a] 23)).alloc (.cells #[.slice x.A N x.c] 26)).heap.size := by simp
  have HC := Lib.hid hc
  have HAI := Lib.hid (ha.next hw)
  have HAM := Lib.hid hm
  have HBI := Lib.hid (hb.next hw)
  have HBK := Lib.hid hk
  have HHI := Lib.hid (hh.next hw)
  have HHn := Lib.hid hn
  have HXI := Lib.hid (hx.next hw)
  have HNE := Lib.hid hN
  have HPI := Lib.hid (hp.next hw)
  have HPN := Lib.hid hpn
  have HPC := Lib.hid hpc
  clear hc hm ha hk hb hn hh hN hx hpn hp hpc s1 hx2
  go_enter Try.func3, Try.ntmps3
  go_upto_region 1 with fail
  generalize ((w.alloc (.cells #[.int .i64 z, .int .i64 d, .int .i64 s, .int .i64 l, .int .i64 a] 23)).alloc (.cells #[.slice x.A N x.c] 26)) = w2 at *
  obtain ⟨g0, g1', g2, g3, g4⟩ := id GG
  have t0 := TT.c0
  have HH1 := Lib.hid (heavy_c false x.A hA N x.c n hq hr w2 HHn.out HHI.out.h HHI.out.r (iff_of_false Bool.false_ne_true h1))
  have HH2 := Lib.hid (show ∀ W, Below w2.heap.size w2 W → Calls Try.prog 8 #[.agg #[.slice x.A N x.c], .slice bA k bc] W fun e w' => e = .returned (.bool false) ∧ Below W.heap.size W w' from fun W hW => heavy_c false x.A bA N x.c k bc br W HBK.out (HBI.out.next hW).h (HBI.out.next hW).r (iff_of_false Bool.false_ne_true h2))
  have h4 : (20 : Int) < (m : Int) ∨ ¬ (20 : Int) < (m : Int) ∧ (100 : Int) < (pn : Int) := by omega
  clear h1 h2 h3
  have HMG := Lib.hid (show ∀ W, Below w2.heap.size w2 W → (W.cell? ⟨w.heap.size, 0, none⟩ = some (.int .i64 z) ∧ W.cell? ⟨w.heap.size, 1, none⟩ = some (.int .i64 d) ∧ W.cell? ⟨w.heap.size, 2, none⟩ = some (.int .i64 s) ∧ W.cell? ⟨w.heap.size, 3, none⟩ = some (.int .i64 l) ∧ W.cell? ⟨w.heap.size, 4, none⟩ = some (.int .i64 a)) ∧ W.cell? ⟨w.heap.size + 1, 0, none⟩ = some (.slice x.A N x.c) from fun W h => ⟨⟨kst h (by omega) g0, kst h (by omega) g1', kst h (by omega) g2, kst h (by omega) g3, kst h (by omega) g4⟩, kst h lT t0⟩)
  rcases h4 with h4 | ⟨h4, h5⟩
  all_goals
    go_wp2_with (first
      | (go_at_call 8; (with_reducible refine HH1.out.mono ?_); rintro e w3 ⟨rfl, hb3⟩; clear g0 g1' g2 g3 g4 t0; obtain ⟨⟨g0, g1', g2, g3, g4⟩, t0⟩ := HMG.out _ hb3)
      | (go_at_call 8; (with_reducible refine (HH2.out _ hb3).mono ?_); rintro e w3' ⟨rfl, hb3'⟩; replace hb3 := bt hb3 hb3'; clear g0 g1' g2 g3 g4 t0; obtain ⟨⟨g0, g1', g2, g3, g4⟩, t0⟩ := HMG.out _ hb3))
    go_ret
    exact ⟨rfl, bt hw hb3⟩
end Go.Proofs.Ythdahdopejapmaa.stp
