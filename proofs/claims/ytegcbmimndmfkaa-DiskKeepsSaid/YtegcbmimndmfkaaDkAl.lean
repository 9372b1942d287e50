/-
  The law DiskKeeps. No condition.
-/
import Derived.Test.YtegcbmimndmfkaaDkAk
namespace Go.Proofs.Ytegcbmimndmfkaa.dsk
open Go.RowKit Go.Lib

set_option maxRecDepth 100000 in
theorem keeps_long (n keep : Int) (RA : Option Addr) (rc : Nat) (m : Nat) (IA : Option Addr) (ic q : Nat) (w : World) (h : 31 < m) :
    Calls Try.prog 5 #[.int .i64 n, .slice RA m rc, .slice IA q ic, .int .i64 keep] w fun e w' => e = .returned (.bool true) ∧ Below w.heap.size w w' := by
  have i1 : 31 < (m : Int) := by omega
  go_enter Try.func5, Try.ntmps5
  go_wp2
  go_ret
  exact ⟨rfl, Below.refl _ _⟩
set_option maxRecDepth 100000 in
theorem keeps_few (n keep : Int) (RA : Option Addr) (rc : Nat) (m : Nat) (IA : Option Addr) (ic q : Nat) (w : World) (h : m ≤ 31) (h2 : q < m) :
    Calls Try.prog 5 #[.int .i64 n, .slice RA m rc, .slice IA q ic, .int .i64 keep] w fun e w' => e = .returned (.bool true) ∧ Below w.heap.size w w' := by
  have i1 : ¬ (31 < (m : Int)) := by omega
  have i2 : (q : Int) < (m : Int) := by omega
  go_enter Try.func5, Try.ntmps5
  go_wp2
  go_ret
  exact ⟨rfl, Below.refl _ _⟩
set_option maxRecDepth 100000 in
theorem keeps_neg (n keep : Int) (RA : Option Addr) (rc : Nat) (m : Nat) (IA : Option Addr) (ic q : Nat) (w : World) (h : m ≤ 31) (h2 : ¬ q < m) (h3 : keep < 0) :
    Calls Try.prog 5 #[.int .i64 n, .slice RA m rc, .slice IA q ic, .int .i64 keep] w fun e w' => e = .returned (.bool true) ∧ Below w.heap.size w w' := by
  have i1 : ¬ (31 < (m : Int)) := by omega
  have i2 : ¬ ((q : Int) < (m : Int)) := by omega
  go_enter Try.func5, Try.ntmps5
  go_wp2
  go_ret
  exact ⟨rfl, Below.refl _ _⟩
theorem keeps_law (n keep : Int) (RA : Option Addr) (rc : Nat) (rs : List Row) (IA : Option Addr) (ic : Nat) (l : List Int) (w : World) (hR : SlV w w.heap.size RA (vals rs)) (hrw : Rws w w.heap.size rs) (hcp : Caps rs) (hI : SlK .i64 w w.heap.size IA l)
    (hmx : keep ≤ 9223372036854775807) :
    Calls Try.prog 5 #[.int .i64 n, .slice RA rs.length rc, .slice IA l.length ic, .int .i64 keep] w fun e w' => e = .returned (.bool true) ∧ Below w.heap.size w w' := by
  by_cases h1 : 31 < rs.length
  · exact keeps_long n keep RA rc _ IA ic _ w h1
  by_cases h2 : l.length < rs.length
  · exact keeps_few n keep RA rc _ IA ic _ w (by omega) h2
  by_cases h3 : keep < 0
  · exact keeps_neg n keep RA rc _ IA ic _ w (by omega) h2 h3
  exact keeps_go n keep RA rc rs IA ic l w hR (fun r hr => ⟨hrw r hr, hcp r hr⟩) hI.slv (by omega) (by omega) (by omega) hmx
end Go.Proofs.Ytegcbmimndmfkaa.dsk
