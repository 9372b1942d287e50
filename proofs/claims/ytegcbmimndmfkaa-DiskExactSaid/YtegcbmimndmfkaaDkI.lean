/-
  slices.Backward over a disk's writes: which rounds it makes. Conditions: rows shorter than 2^20.
-/
import Derived.RangeFuncNested
import Derived.RangeFuncBound
import Derived.RangeFuncCalls
import Derived.RangeFuncLeaves
import Derived.Shelf.Abstract
import Derived.Shelf.RegionOpen
import Derived.WalkKit
import Derived.OwnWalkIn
import Derived.TacticsInMore
import Derived.LoopNIn
import Derived.LoopIn
import Derived.Test.YtegcbmimndmfkaaDkK
namespace Go.Proofs.Ytegcbmimndmfkaa.dsk
open Go.RowKit Go.Shelf Go.Lib
attribute [local go_sem] Oper.semAt_some

/-- The places from the last one down. -/
def down (n : Nat) : List (Fin n) := (List.finRange n).reverse
theorem down_length (n : Nat) : (down n).length = n := by simp [down]
theorem down_get {n k : Nat} (h : k < n) : (down n)[k]? = some ⟨n - 1 - k, by omega⟩ := by
  unfold down
  rw [List.getElem?_reverse (by simpa using h), List.length_finRange, List.getElem?_eq_getElem (by simp; omega)]
  simp
def encW (ws : List WriR) (i : Fin ws.length) : Array Value := #[.int .i64 ((i.val : Nat) : Int), .agg #[.int .i64 (ws[i.val]'i.2).addr, .slice (ws[i.val]'i.2).b.A (ws[i.val]'i.2).b.l.length (ws[i.val]'i.2).b.c]]

set_option maxRecDepth 100000 in
set_option maxHeartbeats 1000000 in
theorem back1_in (F : Fence) (n : Nat) (h8 : F.fn 48) (hro : F.round = none) (hn : 1 ≤ n) (l Bs n₀ c : Nat) (A : Option Addr) (ws : List WriR) (hm : ws.length ≤ 1048576) (hBn : Bs < n₀) (J Jx : List (Fin ws.length) → World → Prop)
    (hY : ∀ pre x W, J pre W → pre.length < ws.length → YieldAt F (n - 1) Try.prog l (encW ws x) W fun e W' =>
      (e = .returned (.bool true) ∧ J (pre ++ [x]) W' ∧ Below n₀ W W') ∨ (e = .returned (.bool false) ∧ Jx (pre ++ [x]) W'))
    (W : World) (hBs : W.cell? ⟨Bs, 0, none⟩ = some (.slice A ws.length c)) (hA : SlV W n₀ A (wvs ws)) (hR : WIn W n₀ ws) (h0 : J [] W) :
    CallsIn F n Try.prog 48 #[.func (.yield l) #[] #[], .pointer (some ⟨Bs, 0, none⟩)] W fun e W' => (∃ v, e = .returned v) ∧
      ((∃ ys, ys = down ws.length ∧ J ys W') ∨ (∃ pre, (∃ k, k ≤ ws.length ∧ pre = (down ws.length).take k) ∧ Jx pre W')) := by
  refine callsIn_of_wp Try.func48 rfl h8 ?_ hro
  simp only [Try.ntmps48, List.size_toArray, List.length_cons, List.length_nil, Nat.reduceAdd, Nat.reduceSub, Array.replicate_succ, Array.replicate_zero, List.push_toArray, List.append_toArray, List.nil_append, List.cons_append]
  gi_wp2
  gi_loopw [3] (fun i wr => ∃ j : Nat, j ≤ ws.length ∧ i = .int .i64 ((j : Int) - 1) ∧ J ((down ws.length).take (ws.length - j)) wr ∧ Below n₀ W wr)
    (fun i _ => (RowKit.intOf i + 1).toNat)
  case atStart => exact ⟨ws.length, Nat.le_refl _, by go_num, by rw [Nat.sub_self]; exact h0, Below.refl _ _⟩
  case round =>
    obtain ⟨j, hk, rfl, hJs, hnx⟩ := hrel
    have cS : wr.cell? ⟨Bs, 0, none⟩ = some (.slice A ws.length c) := (hnx.cell (p := ⟨Bs, 0, none⟩) hBn).trans hBs
    cases j with
    | succ q =>
      obtain ⟨b1, off, u, rfl, hb1, r0, r1, -, -, eu, -⟩ := write_at (hA.below hnx) (hR.below hnx) (show q < ws.length by omega)
      have e1 := take_next (down_get (show ws.length - (q + 1) < ws.length by omega))
      have e2 : (⟨ws.length - 1 - (ws.length - (q + 1)), by omega⟩ : Fin ws.length) = ⟨q, by omega⟩ := Fin.ext (by show ws.length - 1 - (ws.length - (q + 1)) = q; omega)
      rw [e2, show ws.length - (q + 1) + 1 = ws.length - q by omega] at e1
      have HE := Lib.hid e1
      clear e1 e2
      obtain ⟨hj, rfl⟩ := List.getElem?_eq_some_iff.1 eu
      obtain ⟨fn, tmps, assign, body, hy, hR'⟩ := hY _ ⟨q, hj⟩ wr hJs (by rw [List.length_take, down_length]; omega)
      unfold encW at hy
      dsimp only at hy
      rw [show (((q + 1 : Nat) : Int) - 1) = (q : Int) by omega]
      have i1 : (q : Int) < (ws.length : Int) := by omega
      clear eu hJs hY
      gi_wp2
      refine hR'.mono ?_
      rintro e W3 (⟨rfl, hJ3, hk3⟩ | ⟨rfl, hJx3⟩)
      · gi_wp2
        go_roundw
        case rel => exact ⟨q, by omega, by go_num, by rw [HE.out]; exact hJ3, hnx.trans hk3⟩
        case measure => simp [RowKit.intOf]
      · gi_wp2
        refine bodyPost_ret (results_none rfl _ _ _) rfl ?_
        exact ⟨⟨_, rfl⟩, .inr ⟨_, ⟨ws.length - q, by omega, HE.out.symm⟩, hJx3⟩⟩
    | zero =>
      rw [show (((0 : Nat) : Int) - 1) = -1 by omega]
      gi_wp2
      go_end0
      exact ⟨⟨_, rfl⟩, .inl ⟨_, by rw [Nat.sub_zero, List.take_of_length_le (by rw [down_length]; omega)], hJs⟩⟩
theorem back_stops (F : Fence) (n : Nat) (h8 : F.fn 48) (hro : F.round = none) (hn : 1 ≤ n) (Bs c : Nat) (A : Option Addr) (ws : List WriR) (hm : ws.length ≤ 1048576) (w : World) (hBn : Bs < w.heap.size)
    (hBs : w.cell? ⟨Bs, 0, none⟩ = some (.slice A ws.length c)) (hA : SlV w w.heap.size A (wvs ws)) (hR : WIn w w.heap.size ws) :
    SeqStopsK F n Try.prog 48 #[.pointer (some ⟨Bs, 0, none⟩)] (encW ws) (Below w.heap.size) (fun ys => ys = down ws.length) (fun pre => ∃ k, k ≤ ws.length ∧ pre = (down ws.length).take k) ws.length w := fun l J Jx W hW _ _ hY h0 =>
  back1_in F n h8 hro hn l Bs w.heap.size c A ws hm hBn J Jx hY W ((hW.cell (p := ⟨Bs, 0, none⟩) hBn).trans hBs) (hA.below hW) (hR.below hW) h0
theorem back_in (F : Fence) (n : Nat) (h5 : F.fn 45) (hro : F.round = none) (A : Option Addr) (m c : Nat) (w : World) :
    CallsIn F n Try.prog 45 #[.slice A m c] w fun e w' => e = .returned (.func (.func 48) #[] #[.pointer (some ⟨w.heap.size, 0, none⟩)]) ∧ w' = w.alloc (.cells #[.slice A m c] 23) := by
  refine callsIn_of_wp Try.func45 rfl h5 ?_ hro
  simp only [Try.ntmps45, List.size_toArray, List.length_cons, List.length_nil, Nat.reduceAdd, Nat.reduceSub, Array.replicate_succ, Array.replicate_zero, List.push_toArray, List.append_toArray, List.nil_append, List.cons_append]
  gi_wp2
  go_ret
  exact ⟨rfl, rfl⟩
end Go.Proofs.Ytegcbmimndmfkaa.dsk
