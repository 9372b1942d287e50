/-
  slices.Chunk over integers, three at a time: which rounds it makes. Conditions: rows shorter than 2^20, a whole number of rounds.
-/
import Derived.RangeFuncNested
import Derived.RangeFuncBound
import Derived.RangeFuncCalls
import Derived.RangeFuncLeaves
import Derived.Shelf.Abstract
import Derived.Shelf.RegionOpen
import Derived.WalkKit
import Derived.OwnWalkIn
import Derived.TacticsInMore
import Derived.LoopNIn
import Derived.LoopIn
import Derived.Deep.QuietTactic
import Derived.BigQuiet
import Derived.Test.YtejfehkcjcohdaaTbG
namespace Go.Proofs.Ytejfehkcjcohdaa.tbl
open Go.RowKit Go.Shelf Go.Lib
attribute [local go_sem] Oper.semAt_some

/-- The places in their order. -/
def up (n : Nat) : List (Fin n) := List.finRange n
theorem up_length (n : Nat) : (up n).length = n := by simp [up]
theorem up_get {n k : Nat} (h : k < n) : (up n)[k]? = some ⟨k, h⟩ := by
  unfold up
  rw [List.getElem?_eq_getElem (by simpa using h)]
  simp
def encC (b off n : Nat) (i : Fin n) : Array Value := #[.slice (some ⟨b, off + i.val * 3, none⟩) 3 3]

/-- Two blocks are as they were. -/
def KC (s n : Nat) (W W' : World) : Prop := W'.heap[s]? = W.heap[s]? ∧ W'.heap[n]? = W.heap[n]?
theorem KC.refl (s n : Nat) (W : World) : KC s n W W := ⟨rfl, rfl⟩
theorem KC.trans {s n : Nat} {A B C : World} (h : KC s n A B) (k : KC s n B C) : KC s n A C := ⟨k.1.trans h.1, k.2.trans h.2⟩
theorem KC.cellS {s n : Nat} {A B : World} (h : KC s n A B) : B.cell? ⟨s, 0, none⟩ = A.cell? ⟨s, 0, none⟩ := World.cell?_of_block h.1
theorem KC.cellN {s n : Nat} {A B : World} (h : KC s n A B) : B.cell? ⟨n, 0, none⟩ = A.cell? ⟨n, 0, none⟩ := World.cell?_of_block h.2
set_option maxRecDepth 100000 in
set_option maxHeartbeats 4000000 in
theorem chunk1_in (n : Nat) (hn : 1 ≤ n) (l Bs Bn b off c K m : Nat) (hm : m = K * 3) (hK : K ≤ 1024) (hmc : m ≤ c) (J Jx : List (Fin K) → World → Prop)
    (hJD : ∀ pre W k, J pre W → J pre (World.drewN W k))
    (hY : ∀ pre x W, J pre W → pre.length < K → YieldAt Fence.wide (n - 1) Try.prog l (encC b off K x) W fun e W' =>
      (e = .returned (.bool true) ∧ J (pre ++ [x]) W' ∧ KC Bs Bn W W') ∨ (e = .returned (.bool false) ∧ Jx (pre ++ [x]) W'))
    (W : World) (hBs : W.cell? ⟨Bs, 0, none⟩ = some (.slice (some ⟨b, off, none⟩) m c)) (hBn : W.cell? ⟨Bn, 0, none⟩ = some (.int .i64 3)) (h0 : J [] W) :
    CallsIn Fence.wide n Try.prog 72 #[.func (.yield l) #[] #[], .pointer (some ⟨Bs, 0, none⟩), .pointer (some ⟨Bn, 0, none⟩)] W fun e W' => (∃ v, e = .returned v) ∧
      ((∃ ys, ys = up K ∧ J ys W') ∨ (∃ pre, (∃ k, k ≤ K ∧ pre = (up K).take k) ∧ Jx pre W')) := by
  have hro : Fence.wide.round = none := rfl
  have hfn : ∀ k, Fence.wide.fn k := fun _ => trivial
  have HM := Lib.hid hm
  have hm1 : m ≤ 3072 := by omega
  clear hm
  refine callsIn_of_wp Try.func72 rfl (hfn _) ?_ hro
  simp only [Try.ntmps72, List.size_toArray, List.length_cons, List.length_nil, Nat.reduceAdd, Nat.reduceSub, Array.replicate_succ, Array.replicate_zero, List.push_toArray, List.append_toArray, List.nil_append, List.cons_append]
  gi_wp2
  gi_loopw [4] (fun i wr => ∃ j e : Nat, j ≤ K ∧ Hid (e = j * 3) ∧ i = .int .i64 (e : Int) ∧ J ((up K).take j) wr ∧ KC Bs Bn W wr)
    (fun i _ => m - (RowKit.intOf i).toNat)
  case atStart => exact ⟨0, 0, Nat.zero_le _, Lib.hid rfl, rfl, h0, KC.refl _ _ _⟩
  case round =>
    obtain ⟨w3, rfl⟩ : ∃ x, x = wr := ⟨wr, rfl⟩
    obtain ⟨j, e, hk, HE, rfl, hJs, hnx⟩ := hrel
    have cS := hnx.cellS.trans hBs
    have cN := hnx.cellN.trans hBn
    by_cases hlt : j < K
    · have he3 : e + 3 ≤ m := by have := HE.out; have := HM.out; omega
      have j1 : (e : Int) < (m : Int) := by omega
      have j2 : (0 : Int) ≤ (e : Int) := by omega
      have j3 : (e : Int) ≤ (m : Int) := by omega
      have j4 : (e : Int) ≤ (c : Int) := by omega
      have j5 : (m : Int) ≤ (c : Int) := by omega
      have j6 : (3 : Int) ≤ ((m - e : Nat) : Int) := by omega
      refine wpIn_wide.2 ?_
      go_upto_region 3 with fail
      go_quiet (fail)
      have hmin : min (3 : Int) ((m - e : Nat) : Int) = 3 := by omega
      rw [hmin]
      clear hmin
      have hJ2 := hJD _ _ nq hJs
      have hnx2 : KC Bs Bn W (w3.drewN nq) := hnx
      clear hJs hnx
      generalize w3.drewN nq = w4 at *
      have cS := hnx2.cellS.trans hBs
      have cN := hnx2.cellN.trans hBn
      go_upto_region 4 with fail
      refine (wpIn_wide (n := n)).1 ?_
      obtain ⟨fn, tmps, assign, body, hy, hR'⟩ := hY _ ⟨j, hlt⟩ w4 hJ2 (by rw [List.length_take, up_length]; omega)
      unfold encC at hy
      dsimp only at hy
      have HE2 := Lib.hid (take_next (up_get hlt))
      rw [← HE.out] at hy
      have k2 : (e : Int) + 3 ≤ (c : Int) := by omega
      have k3 : (e : Int) + 3 ≤ (m : Int) := by omega
      clear hJ2 hY hJD
      gi_wp2
      refine hR'.mono ?_
      rintro e9 W3 (⟨rfl, hJ3, hk3⟩ | ⟨rfl, hJx3⟩)
      · have hnx3 := hnx2.trans hk3
        have cS3 := hnx3.cellS.trans hBs
        have cN3 := hnx3.cellN.trans hBn
        clear cS cN hR' hy
        gi_wp2
        go_wp2_with fail
        go_roundw
        case rel => exact ⟨j + 1, e + 3, by omega, Lib.hid (by have := HE.out; omega), by go_num, by rw [HE2.out]; exact hJ3, hnx3⟩
        case measure => simp [RowKit.intOf]; omega
      · clear cS cN hR' hy
        gi_wp2
        go_wp2_with fail
        refine bodyPost_ret (results_none rfl _ _ _) rfl ?_
        exact ⟨⟨_, rfl⟩, .inr ⟨_, ⟨j + 1, by omega, HE2.out.symm⟩, hJx3⟩⟩
    · obtain rfl : j = K := by omega
      have hje : e = m := by rw [HE.out, HM.out]
      rw [hje]
      clear hje
      have j7 : ¬ (m : Int) < (m : Int) := by omega
      have hJe := Lib.hid (show J (up j) w3 by rw [List.take_of_length_le (by rw [up_length]; omega)] at hJs; exact hJs)
      gi_wp2
      go_end0
      exact ⟨⟨_, rfl⟩, .inl hJe.out⟩
theorem chunk_stops (n : Nat) (hn : 1 ≤ n) (Bs Bn b off c K m : Nat) (hm : m = K * 3) (hK : K ≤ 1024) (hmc : m ≤ c) (w : World) (hBs0 : Bs < w.heap.size) (hBn0 : Bn < w.heap.size)
    (hBs : w.cell? ⟨Bs, 0, none⟩ = some (.slice (some ⟨b, off, none⟩) m c)) (hBn : w.cell? ⟨Bn, 0, none⟩ = some (.int .i64 3)) :
    SeqStopsK Fence.wide n Try.prog 72 #[.pointer (some ⟨Bs, 0, none⟩), .pointer (some ⟨Bn, 0, none⟩)] (encC b off K) (KC Bs Bn) (fun ys => ys = up K) (fun pre => ∃ k, k ≤ K ∧ pre = (up K).take k) K w := fun l J Jx W hW hJ _ hY h0 =>
  chunk1_in n hn l Bs Bn b off c K m hm hK hmc J Jx
    (fun pre W' k h => hJ pre W' (W'.drewN k) none h ⟨rfl, rfl, rfl, Nat.le_refl _, fun _ _ _ => rfl⟩ (fun r e => by cases e))
    hY W ((hW.cell (p := ⟨Bs, 0, none⟩) hBs0).trans hBs) ((hW.cell (p := ⟨Bn, 0, none⟩) hBn0).trans hBn) h0
theorem chunk_in (n : Nat) (A : Option Addr) (m c : Nat) (w : World) :
    CallsIn Fence.wide n Try.prog 61 #[.slice A m c, .int .i64 3] w fun e w' => e = .returned (.func (.func 72) #[] #[.pointer (some ⟨w.heap.size, 0, none⟩), .pointer (some ⟨w.heap.size + 1, 0, none⟩)]) ∧ w' = (w.alloc (.cells #[.slice A m c] 69)).alloc (.cells #[.int .i64 3] 3) := by
  have hro : Fence.wide.round = none := rfl
  have hfn : ∀ k, Fence.wide.fn k := fun _ => trivial
  refine callsIn_of_wp Try.func61 rfl (hfn _) ?_ hro
  simp only [Try.ntmps61, List.size_toArray, List.length_cons, List.length_nil, Nat.reduceAdd, Nat.reduceSub, Array.replicate_succ, Array.replicate_zero, List.push_toArray, List.append_toArray, List.nil_append, List.cons_append]
  gi_wp2
  go_ret
  exact ⟨rfl, rfl⟩
end Go.Proofs.Ytejfehkcjcohdaa.tbl
