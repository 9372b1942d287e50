/-
  Package disk: Check. Conditions: none.
-/
import Derived.Test.YtegcbmimndmfkaaDkA
import Derived.Test.YtegcbmimndmfkaaDkT
namespace Go.Proofs.Ytegcbmimndmfkaa.dsk
open Go.RowKit Go.Lib

def errV (d : Dsk) : Int := if Valid d then 0 else 1
theorem counts_iff (d : DV) : Counts d.d ↔ ((1 ≤ d.cs.length ∧ d.cs.length ≤ 300 ∧ d.ws.length ≤ 2000) ∧ 0 ≤ d.reqs ∧ d.reqs ≤ 1048576 ∧ -1 ≤ d.left ∧ d.left ≤ 1048576) := by
  show ((1 ≤ (cds d.cs).length ∧ (cds d.cs).length ≤ 300 ∧ (wds d.ws).length ≤ 2000) ∧ 0 ≤ d.reqs ∧ d.reqs ≤ 1048576 ∧ -1 ≤ d.left ∧ d.left ≤ 1048576) ↔ _
  rw [cds_length, wds_length]
theorem counts_not (n m : Nat) (q l : Int) (h : ¬ ((1 ≤ n ∧ n ≤ 300 ∧ m ≤ 2000) ∧ 0 ≤ q ∧ q ≤ 1048576 ∧ -1 ≤ l ∧ l ≤ 1048576)) :
    (((¬ ((1 : Int) ≤ n)) ∨ ((1 : Int) ≤ n ∧ ¬ ((n : Int) ≤ 300)) ∨ ((1 : Int) ≤ n ∧ (n : Int) ≤ 300 ∧ ¬ ((m : Int) ≤ 2000))) ∧
      ((¬ (0 ≤ q)) ∨ (0 ≤ q ∧ ¬ (q ≤ 1048576)) ∨ (0 ≤ q ∧ q ≤ 1048576 ∧ ¬ (-1 ≤ l)) ∨ (0 ≤ q ∧ q ≤ 1048576 ∧ -1 ≤ l ∧ ¬ (l ≤ 1048576)) ∨ (0 ≤ q ∧ q ≤ 1048576 ∧ -1 ≤ l ∧ l ≤ 1048576))) ∨
    (((1 : Int) ≤ n ∧ (n : Int) ≤ 300 ∧ (m : Int) ≤ 2000) ∧ ((¬ (0 ≤ q)) ∨ (0 ≤ q ∧ ¬ (q ≤ 1048576)) ∨ (0 ≤ q ∧ q ≤ 1048576 ∧ ¬ (-1 ≤ l)) ∨ (0 ≤ q ∧ q ≤ 1048576 ∧ -1 ≤ l ∧ ¬ (l ≤ 1048576)))) := by omega
set_option maxHeartbeats 4000000 in
theorem check_counts (d : DV) (w : World) (h : ¬ Counts d.d) :
    Calls Try.prog 19 #[d.v] w fun e w' => e = .returned (.int .i64 1) ∧ Below w.heap.size w w' := by
  have P0 := four_new w (.slice d.CA d.cs.length d.cc) (.slice d.WA d.ws.length d.wc) (.int .i64 d.reqs) (.int .i64 d.left) 25
  have B0 := bl w (.cells #[.slice d.CA d.cs.length d.cc, .slice d.WA d.ws.length d.wc, .int .i64 d.reqs, .int .i64 d.left] 25)
  obtain ⟨c0, c1, c2, c3, -, -, -, -⟩ := id P0
  clear P0
  rw [counts_iff] at h
  have hn := counts_not _ _ _ _ h
  unfold DV.v
  clear h
  rcases hn with ⟨h | ⟨h, k⟩ | ⟨h, k, m⟩, a | ⟨a, b⟩ | ⟨a, b, c⟩ | ⟨a, b, c, e⟩ | ⟨a, b, c, e⟩⟩ | ⟨⟨h, k, m⟩, a | ⟨a, b⟩ | ⟨a, b, c⟩ | ⟨a, b, c, e⟩⟩
  all_goals
    (go_enter Try.func19, Try.ntmps19
     go_wp2
     go_ret
     exact ⟨rfl, B0⟩)
end Go.Proofs.Ytegcbmimndmfkaa.dsk
