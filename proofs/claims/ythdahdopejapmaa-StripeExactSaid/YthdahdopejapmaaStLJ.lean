/-
  The law StripeExact. Conditions: 'Cst'.
-/
import Derived.Test.YthdahdopejapmaaStQ
import Derived.Test.YthdahdopejapmaaDkQ
import Derived.Deep.RegionHeld3
import Derived.Test.YthdahdopejapmaaStLI
namespace Go.Proofs.Ythdahdopejapmaa.stp
open Go.RowKit Go.Lib
open Go.Proofs.Ythdahdopejapmaa.gmt (Ok)
open Go.Proofs.Ythdahdopejapmaa.anc (bl kal kst ks bm ka)
open Go.Proofs.Ythdahdopejapmaa.tbl (Ent EntOk C1 c1_new G5 g5_new OwnE)
open Go.Proofs.Ythdahdopejapmaa.par (zx zeros zeros_length zx_length)
open Go.Proofs.Ythdahdopejapmaa.zon
open Go.Proofs.Ythdahdopejapmaa.img
/-- The law. -/
theorem exact_law (z s l a st zn : Int) (d : Int) (x : tbl.TV) (N : Nat) (hA : Option Addr) (hq : Nat) (hr : List Row) (n : Nat) (aA : Option Addr) (ac : Nat) (ats : List Int) (m : Nat) (bA : Option Addr) (bc : Nat) (br : List Row) (k : Nat) (pA : Option Addr) (pn pc : Nat) (p : List UInt8) (w : World) (hc : Cst w) (hN : x.es.length = N) (hx : x.In w w.heap.size) (hn : hr.length = n) (hh : LV.In w w.heap.size ⟨hA, hq, hr⟩) (hm : ats.length = m) (ha : NV.In w w.heap.size ⟨aA, ac, ats⟩) (hk : br.length = k) (hb : LV.In w w.heap.size ⟨bA, bc, br⟩) (hpn : p.length = pn) (hp : Sl w w.heap.size pA p) (hpc : pn ≤ pc ∧ pc ≤ maxLen) :
    Calls Try.prog 3 #[.agg #[.int .i64 z, .int .i64 d, .int .i64 s, .int .i64 l, .int .i64 a], .agg #[.slice x.A N x.c], .slice hA n hq, .slice aA m ac, .slice bA k bc, .int .i64 st, .int .i64 zn, .slice pA pn pc] w fun e w' => e = .returned (.bool true) ∧ Below w.heap.size w w' := by
  by_cases h1 : 20 < N ∨ 20 < n ∨ ∃ y ∈ lists hr, 100 < y.length
  · exact ex_heavy1 z s l a st zn d x N hA hq hr n aA ac ats m bA bc br k pA pn pc p w hc hN hx hn hh hm ha hk hb hpn hp hpc h1
  by_cases h2 : 20 < N ∨ 20 < k ∨ ∃ y ∈ lists br, 100 < y.length
  · exact ex_heavy2 z s l a st zn d x N hA hq hr n aA ac ats m bA bc br k pA pn pc p w hc hN hx hn hh hm ha hk hb hpn hp hpc h1 h2
  by_cases h3 : 20 < m ∨ 100 < pn
  · exact ex_heavy3 z s l a st zn d x N hA hq hr n aA ac ats m bA bc br k pA pn pc p w hc hN hx hn hh hm ha hk hb hpn hp hpc h1 h2 h3
  by_cases hog : Ok z d s l a ∧ tbl.Good d x.es
  case neg => exact ex_bad z s l a st zn d x N hA hq hr n aA ac ats m bA bc br k pA pn pc p w hc hN hx hn hh hm ha hk hb hpn hp hpc h1 h2 h3 hog
  obtain ⟨D, rfl⟩ : ∃ D : Nat, d = D := ⟨d.toNat, by have := hog.1.2.1; omega⟩
  exact ex_good z s l a st zn D x N hA hq hr n aA ac ats m bA bc br k pA pn pc p w hc hN hx hn hh hm ha hk hb hpn hp hpc h1 h2 h3 hog.1 hog.2
theorem exact_said (z s l a d st zn : Int) (x : tbl.TV) (hA : Option Addr) (hq : Nat) (hr : List Row) (aA : Option Addr) (ac : Nat) (ats : List Int) (bA : Option Addr) (bc : Nat) (br : List Row) (pA : Option Addr) (pc : Nat) (p : List UInt8) (w : World) (hc : Cst w) (hx : x.In w w.heap.size) (hh : LV.In w w.heap.size ⟨hA, hq, hr⟩) (ha : NV.In w w.heap.size ⟨aA, ac, ats⟩) (hb : LV.In w w.heap.size ⟨bA, bc, br⟩) (hp : Sl w w.heap.size pA p) (hpc : p.length ≤ pc ∧ pc ≤ maxLen) :
    Calls Try.prog 3 #[.agg #[.int .i64 z, .int .i64 d, .int .i64 s, .int .i64 l, .int .i64 a], x.v, .slice hA hr.length hq, .slice aA ats.length ac, .slice bA br.length bc, .int .i64 st, .int .i64 zn, .slice pA p.length pc] w fun e w' => e = .returned (.bool true) ∧ Below w.heap.size w w' :=
  exact_law z s l a st zn d x x.es.length hA hq hr hr.length aA ac ats ats.length bA bc br br.length pA p.length pc p w hc rfl hx rfl hh rfl ha rfl hb rfl hp hpc
end Go.Proofs.Ythdahdopejapmaa.stp
