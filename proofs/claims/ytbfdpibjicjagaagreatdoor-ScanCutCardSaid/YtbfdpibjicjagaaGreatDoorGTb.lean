/-
  The small functions of package table, and Check. Conditions: rows shorter than 2^20.
  bits.Mul and slices.Repeat as package table calls them. Conditions: up to five times.
  Package table: First, tableSizes. Conditions: a right geometry.
  Package table: Bytes, Lost. Conditions: rows shorter than 2^20.
  Package table: Lost. Conditions: a right geometry, a right table.
  slices.Chunk over integers, three at a time: which rounds it makes. Conditions: rows shorter than 2^20, a whole number of rounds.
  Package table: what parse comes to. Conditions: rows shorter than 2^20.
  A region that draws its order inside a round of a range over a function: from the plain walk; what a round of parse reads. Conditions: each law's own.
-/
import Derived.Test.YtbfdpibjicjagaaGreatDoorGTa
import Derived.Deep.RegionHeld3
import Derived.Laws.CopyOwn
import Derived.Laws.MakeOwn
import Derived.Laws.BitsAllLaws
import Derived.StillTailTactics
import Derived.LoopN
import Derived.Test.YtbfdpibjicjagaaGreatDoorGPk
import Derived.RangeFuncNested
import Derived.RangeFuncBound
import Derived.RangeFuncCalls
import Derived.RangeFuncLeaves
import Derived.Shelf.Abstract
import Derived.Shelf.RegionOpen
import Derived.WalkKit
import Derived.OwnWalkIn
import Derived.TacticsInMore
import Derived.LoopNIn
import Derived.LoopIn
import Derived.Deep.QuietTactic
import Derived.BigQuiet
import Derived.OrdersIn
set_option maxHeartbeats 40000000
set_option maxRecDepth 100000
namespace Go.Proofs.YtbfdpibjicjagaaGreatDoor.tbl
open Go.RowKit Go.Lib
open Go.Proofs.YtbfdpibjicjagaaGreatDoor.gmt (Ok five_new check_ok check_no)
open Go.Proofs.YtbfdpibjicjagaaGreatDoor.anc (flat_get flat_len slv_cell bl kal kst ks bm ka row_form row_below)
theorem isNum_at (c : Bool) (n : Int) (w : World) (hc : c = true ↔ 0 ≤ n ∧ n ≤ 4294967295) :
    Calls Tryz.prog 140 #[.int .i64 n] w fun e w' => e = .returned (.bool c) ∧ w = w' := by
  by_cases h1 : 0 ≤ n
  · by_cases h2 : n ≤ 4294967295
    · obtain rfl : c = true := hc.2 ⟨h1, h2⟩
      clear hc
      go_enter Tryz.func140, Tryz.ntmps140
      go_wp2
      go_ret
      exact ⟨rfl, rfl⟩
    · obtain rfl : c = false := by
        cases c with
        | false => rfl
        | true => exact absurd (hc.1 rfl).2 h2
      clear hc
      go_enter Tryz.func140, Tryz.ntmps140
      go_wp2
      go_ret
      exact ⟨rfl, rfl⟩
  · obtain rfl : c = false := by
      cases c with
      | false => rfl
      | true => exact absurd (hc.1 rfl).1 h1
    clear hc
    go_enter Tryz.func140, Tryz.ntmps140
    go_wp2
    go_ret
    exact ⟨rfl, rfl⟩
theorem flag_at (c : Bool) (w : World) :
    Calls Tryz.prog 137 #[.bool c] w fun e w' => e = .returned (.int .i64 (if c = true then 1 else 0)) ∧ w = w' := by
  cases c
  · go_enter Tryz.func137, Tryz.ntmps137
    go_wp2
    go_ret
    exact ⟨rfl, rfl⟩
  · go_enter Tryz.func137, Tryz.ntmps137
    go_wp2
    go_ret
    exact ⟨rfl, rfl⟩
theorem entryCount_at (z s l a : Int) (D : Nat) (w : World) (hD : D ≤ 4) :
    Calls Tryz.prog 138 #[.agg #[.int .i64 z, .int .i64 D, .int .i64 s, .int .i64 l, .int .i64 a]] w fun e w' => e = .returned (.int .i64 (((D : Nat) : Int) + 1)) ∧ Below w.heap.size w w' := by
  obtain ⟨-, g1, -⟩ := five_new w z D s l a
  have B0 := bl w (.cells #[.int .i64 z, .int .i64 D, .int .i64 s, .int .i64 l, .int .i64 a] 23)
  go_enter Tryz.func138, Tryz.ntmps138
  go_wp2
  go_ret
  exact ⟨rfl, B0⟩
theorem parityIndex_at (z s l a : Int) (D : Nat) (w : World) :
    Calls Tryz.prog 139 #[.agg #[.int .i64 z, .int .i64 D, .int .i64 s, .int .i64 l, .int .i64 a]] w fun e w' => e = .returned (.int .i64 (((D : Nat) : Int))) ∧ Below w.heap.size w w' := by
  obtain ⟨-, g1, -⟩ := five_new w z D s l a
  have B0 := bl w (.cells #[.int .i64 z, .int .i64 D, .int .i64 s, .int .i64 l, .int .i64 a] 23)
  go_enter Tryz.func139, Tryz.ntmps139
  go_wp2
  go_ret
  exact ⟨rfl, B0⟩
theorem tcheck_any (c : Bool) (z s l a : Int) (D : Nat) (x : TV) (w : World) (ho : Ok z D s l a) (hx : x.In w w.heap.size) (hn : x.es.length ≤ 1048576) (hc : c = true ↔ Good D x.es) :
    Calls Tryz.prog 133 #[.agg #[.int .i64 z, .int .i64 D, .int .i64 s, .int .i64 l, .int .i64 a], x.v] w fun e w' => e = .returned (.int .i64 (if c = true then 0 else 1)) ∧ Below w.heap.size w w' := by
  have cC := fun W => check_ok z D s l a W ho
  have o2 := ho.2.1
  have hD : D ≤ 4 := by omega
  have cE := fun W => entryCount_at z s l a D W hD
  have cP := fun W => parityIndex_at z s l a D W
  have HC := Lib.hid hc
  unfold TV.v
  have s1 : (w.alloc (.cells #[.int .i64 z, .int .i64 D, .int .i64 s, .int .i64 l, .int .i64 a] 23)).heap.size = w.heap.size + 1 := by simp
  have hx2 := bl (w.alloc (.cells #[.int .i64 z, .int .i64 D, .int .i64 s, .int .i64 l, .int .i64 a] 23)) (.cells #[.slice x.A x.es.length x.c] 91)
  have GG := (g5_new w z D s l a).keep hx2 (by omega)
  have T1 := c1_new (w.alloc (.cells #[.int .i64 z, .int .i64 D, .int .i64 s, .int .i64 l, .int .i64 a] 23)) (.slice x.A x.es.length x.c) 91
  rw [s1] at T1
  have hb0 := kal (bl w (.cells #[.int .i64 z, .int .i64 D, .int .i64 s, .int .i64 l, .int .i64 a] 23)) (.cells #[.slice x.A x.es.length x.c] 91)
  have l1 : w.heap.size + 1 < ((w.alloc (.cells #[.int .i64 z, .int .i64 D, .int .i64 s, .int .i64 l, .int .i64 a] 23)).alloc (.cells #[.slice x.A x.es.length x.c] 91)).heap.size := by simp
  clear s1 hx2
  have HX := Lib.hid (hx.next hb0)
  obtain ⟨n, hnn⟩ : ∃ n, n = x.es.length := ⟨_, rfl⟩
  rw [← hnn] at hb0 T1 hn l1 GG
  have HN := Lib.hid hnn
  have HO := Lib.hid ho
  rw [← hnn]
  clear ho hc hx hnn
  go_enter Tryz.func133, Tryz.ntmps133
  go_upto_region 1 with fail
  rw [← HN.out] at HX
  generalize (w.alloc (.cells #[.int .i64 z, .int .i64 D, .int .i64 s, .int .i64 l, .int .i64 a] 23)).alloc (.cells #[.slice x.A n x.c] 91) = w0 at *
  obtain ⟨g0, g1, g2, g3, g4⟩ := id GG
  go_upto_region 4 with (go_at_call 46; (with_reducible refine (cC _).mono ?_); rintro e w1 ⟨rfl, hb1⟩)
  replace GG := GG.keep hb1 (by omega)
  replace T1 := T1.keep hb1 l1
  replace HX := Lib.hid (HX.out.next hb1)
  replace hb0 := bt hb0 hb1
  replace l1 := Nat.lt_of_lt_of_le l1 hb1.size
  clear g0 g1 g2 g3 g4 hb1 w0 cC
  have t0 := T1.c0
  obtain ⟨g0, g1, g2, g3, g4⟩ := id GG
  by_cases hl : n = D + 1
  case neg =>
    have n1 : ((n : Int) != (D : Int) + 1) = true := bne_iff_ne.2 (by omega)
    have n2 : ((n : Int) == (D : Int) + 1) = false := beq_eq_false_iff_ne.2 (by omega)
    obtain rfl : c = false := by
      cases c with
      | false => rfl
      | true =>
        have h9 := (HC.out.1 rfl).1
        rw [← HN.out] at h9
        omega
    have HF := Lib.hid (show ∀ W, Below w1.heap.size w1 W → W.cell? ⟨w.heap.size, 0, none⟩ = some (.int .i64 z) ∧ W.cell? ⟨w.heap.size, 1, none⟩ = some (.int .i64 D) ∧ W.cell? ⟨w.heap.size, 2, none⟩ = some (.int .i64 s) ∧ W.cell? ⟨w.heap.size, 3, none⟩ = some (.int .i64 l) ∧ W.cell? ⟨w.heap.size, 4, none⟩ = some (.int .i64 a) ∧ W.cell? ⟨w.heap.size + 1, 0, none⟩ = some (.slice x.A n x.c) ∧ Below w1.heap.size w1 W from fun W h => ⟨kst h (by omega) g0, kst h (by omega) g1, kst h (by omega) g2, kst h (by omega) g3, kst h (by omega) g4, kst h l1 t0, h⟩)
    clear HC hl
    refine wp_region_held_drew (S := fun W => W.cell? ⟨w.heap.size, 0, none⟩ = some (.int .i64 z) ∧ W.cell? ⟨w.heap.size, 1, none⟩ = some (.int .i64 D) ∧ W.cell? ⟨w.heap.size, 2, none⟩ = some (.int .i64 s) ∧ W.cell? ⟨w.heap.size, 3, none⟩ = some (.int .i64 l) ∧ W.cell? ⟨w.heap.size, 4, none⟩ = some (.int .i64 a) ∧ W.cell? ⟨w.heap.size + 1, 0, none⟩ = some (.slice x.A n x.c) ∧ Below w1.heap.size w1 W) (by kernel_rfl) (HF.out _ (below_dr (Below.refl w1.heap.size w1))) (fun hHeld => ?_)
    (refine wpAnyH_take (i := 0) (v := ?_) rfl (by kernel_rfl) (by kernel_rfl) (by kernel_rfl) (fun _ _ _ h => h) (Or.inl ⟨by rfl, ?_⟩) (by assumption) ?_; rotate_left; (focus (intro w hSw; (try dsimp only at hSw); go_split_ands; go_simp <;> with_reducible rfl)); simp only [List.getElem_toArray, List.getElem_cons_zero, Act.put, List.setIfInBounds_toArray, List.set_cons_zero, List.set_cons_succ])
    (refine wpAnyH_take (i := 1) (v := ?_) rfl (by kernel_rfl) (by kernel_rfl) (by kernel_rfl) (fun _ _ _ h => h) (Or.inl ⟨by rfl, ?_⟩) (by assumption) ?_; rotate_left; (focus (intro w hSw; (try dsimp only at hSw); go_split_ands; go_simp <;> with_reducible rfl)); simp only [List.getElem_toArray, List.getElem_cons_zero, List.getElem_cons_succ, Act.put, List.setIfInBounds_toArray, List.set_cons_zero, List.set_cons_succ])
    (refine wpAnyH_take (i := 2) (v := ?_) rfl (by kernel_rfl) (by kernel_rfl) (by kernel_rfl) (fun _ _ _ h => h) (Or.inl ⟨by rfl, ?_⟩) (by assumption) ?_; rotate_left; (focus (intro w hSw; (try dsimp only at hSw); go_split_ands; go_simp <;> with_reducible rfl)); simp only [List.getElem_toArray, List.getElem_cons_zero, List.getElem_cons_succ, Act.put, List.setIfInBounds_toArray, List.set_cons_zero, List.set_cons_succ])
    (refine wpAnyH_take (i := 3) (v := ?_) rfl (by kernel_rfl) (by kernel_rfl) (by kernel_rfl) (fun _ _ _ h => h) (Or.inl ⟨by rfl, ?_⟩) (by assumption) ?_; rotate_left; (focus (intro w hSw; (try dsimp only at hSw); go_split_ands; go_simp <;> with_reducible rfl)); simp only [List.getElem_toArray, List.getElem_cons_zero, List.getElem_cons_succ, Act.put, List.setIfInBounds_toArray, List.set_cons_zero, List.set_cons_succ])
    refine wpAnyH_ready (rs := [4]) (by kernel_rfl) (by simp) ?_
    refine AllReadyH.cons rfl (fun K hK => ?_) AllReadyH.nil
    go_simp
    (with_reducible refine (cE _).mono ?_)
    rintro e w2 ⟨rfl, hb2q⟩
    have hb2 : Below w1.heap.size w1 w2 := bt (below_dr (Below.refl w1.heap.size w1)) hb2q
    refine hK.out _ _ (HF.out _ hb2) (fun hS2 => ?_)
    clear hK K
    try simp only [Act.put, List.setIfInBounds_toArray, List.set_cons_zero, List.set_cons_succ]
    (refine wpAnyH_take (i := 5) (v := ?_) rfl (by kernel_rfl) (by kernel_rfl) (by kernel_rfl) (fun _ _ _ h => h) (Or.inl ⟨by rfl, ?_⟩) (by assumption) ?_; rotate_left; (focus (intro w hSw; (try dsimp only at hSw); go_split_ands; go_simp <;> with_reducible rfl)); simp only [List.getElem_toArray, List.getElem_cons_zero, List.getElem_cons_succ, Act.put, List.setIfInBounds_toArray, List.set_cons_zero, List.set_cons_succ])
    (refine wpAnyH_take (i := 6) (v := ?_) rfl (by kernel_rfl) (by kernel_rfl) (by kernel_rfl) (fun _ _ _ h => h) (Or.inl ⟨by rfl, ?_⟩) (by assumption) ?_; rotate_left; (focus (intro w hSw; (try dsimp only at hSw); go_split_ands; go_simp <;> with_reducible rfl)); simp only [List.getElem_toArray, List.getElem_cons_zero, List.getElem_cons_succ, Act.put, List.setIfInBounds_toArray, List.set_cons_zero, List.set_cons_succ])
    (refine wpAnyH_take (i := 7) (v := undef) rfl (by kernel_rfl) (by kernel_rfl) (by kernel_rfl) (fun _ _ _ h => h) (Or.inr ⟨by rfl, rfl⟩) (by assumption) ?_; simp only [List.getElem_toArray, List.getElem_cons_zero, List.getElem_cons_succ, Act.put, List.setIfInBounds_toArray, List.set_cons_zero, List.set_cons_succ])
    (refine wpAnyH_take (i := 8) (v := undef) rfl (by kernel_rfl) (by kernel_rfl) (by kernel_rfl) (fun _ _ _ h => h) (Or.inr ⟨by rfl, rfl⟩) (by assumption) ?_; simp only [List.getElem_toArray, List.getElem_cons_zero, List.getElem_cons_succ, Act.put, List.setIfInBounds_toArray, List.set_cons_zero, List.set_cons_succ])
    (refine wpAnyH_take (i := 9) (v := undef) rfl (by kernel_rfl) (by kernel_rfl) (by kernel_rfl) (fun _ _ _ h => h) (Or.inr ⟨by rfl, rfl⟩) (by assumption) ?_; simp only [List.getElem_toArray, List.getElem_cons_zero, List.getElem_cons_succ, Act.put, List.setIfInBounds_toArray, List.set_cons_zero, List.set_cons_succ])
    (refine wpAnyH_take (i := 10) (v := undef) rfl (by kernel_rfl) (by kernel_rfl) (by kernel_rfl) (fun _ _ _ h => h) (Or.inr ⟨by rfl, rfl⟩) (by assumption) ?_; simp only [List.getElem_toArray, List.getElem_cons_zero, List.getElem_cons_succ, Act.put, List.setIfInBounds_toArray, List.set_cons_zero, List.set_cons_succ])
    (refine wpAnyH_take (i := 11) (v := undef) rfl (by kernel_rfl) (by kernel_rfl) (by kernel_rfl) (fun _ _ _ h => h) (Or.inr ⟨by rfl, rfl⟩) (by assumption) ?_; simp only [List.getElem_toArray, List.getElem_cons_zero, List.getElem_cons_succ, Act.put, List.setIfInBounds_toArray, List.set_cons_zero, List.set_cons_succ])
    (refine wpAnyH_take (i := 12) (v := undef) rfl (by kernel_rfl) (by kernel_rfl) (by kernel_rfl) (fun _ _ _ h => h) (Or.inr ⟨by rfl, rfl⟩) (by assumption) ?_; simp only [List.getElem_toArray, List.getElem_cons_zero, List.getElem_cons_succ, Act.put, List.setIfInBounds_toArray, List.set_cons_zero, List.set_cons_succ])
    (refine wpAnyH_take (i := 13) (v := undef) rfl (by kernel_rfl) (by kernel_rfl) (by kernel_rfl) (fun _ _ _ h => h) (Or.inr ⟨by rfl, rfl⟩) (by assumption) ?_; simp only [List.getElem_toArray, List.getElem_cons_zero, List.getElem_cons_succ, Act.put, List.setIfInBounds_toArray, List.set_cons_zero, List.set_cons_succ])
    (refine wpAnyH_take (i := 14) (v := ?_) rfl (by kernel_rfl) (by kernel_rfl) (by kernel_rfl) (fun _ _ _ h => h) (Or.inl ⟨by rfl, ?_⟩) (by assumption) ?_; rotate_left; (focus (intro w hSw; (try dsimp only at hSw); go_split_ands; go_simp <;> with_reducible rfl)); simp only [List.getElem_toArray, List.getElem_cons_zero, List.getElem_cons_succ, Act.put, List.setIfInBounds_toArray, List.set_cons_zero, List.set_cons_succ])
    refine wpAnyH_done (by kernel_rfl) ?_ _
    go_wp2_with fail
    go_ret
    exact ⟨rfl, bt hb0 hb2⟩
  case pos =>
    have n1 : ((n : Int) != (D : Int) + 1) = false := by rw [hl]; exact bne_self_eq_false _
    have n2 : ((n : Int) == (D : Int) + 1) = true := by rw [hl]; exact beq_self_eq_true _
    have i1 : (D : Int) < (n : Int) := by omega
    obtain ⟨b1, off, e, hA1, hb1, c0, c1, c2, -, e1⟩ := ent_at HX.out.h (show D < x.es.length by have := HN.out; omega)
    rw [hA1] at t0 T1
    have c2' : w1.cell? ⟨b1, off + D * 3 + 2, none⟩ = some (.bool e.ls) := c2
    have HE := Lib.hid e1
    have HA := Lib.hid hA1
    have HF := Lib.hid (show ∀ W, Below w1.heap.size w1 W → W.cell? ⟨w.heap.size, 0, none⟩ = some (.int .i64 z) ∧ W.cell? ⟨w.heap.size, 1, none⟩ = some (.int .i64 D) ∧ W.cell? ⟨w.heap.size, 2, none⟩ = some (.int .i64 s) ∧ W.cell? ⟨w.heap.size, 3, none⟩ = some (.int .i64 l) ∧ W.cell? ⟨w.heap.size, 4, none⟩ = some (.int .i64 a) ∧ W.cell? ⟨w.heap.size + 1, 0, none⟩ = some (.slice (some ⟨b1, off, none⟩) n x.c) ∧ W.cell? ⟨b1, off + D * 3 + 2, none⟩ = some (.bool e.ls) ∧ Below w1.heap.size w1 W from fun W h => ⟨kst h (by omega) g0, kst h (by omega) g1, kst h (by omega) g2, kst h (by omega) g3, kst h (by omega) g4, kst h l1 t0, kst h hb1 c2', h⟩)
    have HL := Lib.hid hl
    clear e1 hA1 c0 c1 c2 c2' hl
    obtain ⟨q, hq⟩ : ∃ q, q = e.ls := ⟨_, rfl⟩
    rw [← hq] at HF
    have HQ := Lib.hid hq
    clear hq
    go_region_held3 (fun W => W.cell? ⟨w.heap.size, 0, none⟩ = some (.int .i64 z) ∧ W.cell? ⟨w.heap.size, 1, none⟩ = some (.int .i64 D) ∧ W.cell? ⟨w.heap.size, 2, none⟩ = some (.int .i64 s) ∧ W.cell? ⟨w.heap.size, 3, none⟩ = some (.int .i64 l) ∧ W.cell? ⟨w.heap.size, 4, none⟩ = some (.int .i64 a) ∧ W.cell? ⟨w.heap.size + 1, 0, none⟩ = some (.slice (some ⟨b1, off, none⟩) n x.c) ∧ W.cell? ⟨b1, off + D * 3 + 2, none⟩ = some (.bool q) ∧ Below w1.heap.size w1 W)
      (first
        | exact HF.out _ (below_dr (Below.refl _ _))
        | exact HF.out _ hbS
        | fail)
      (first
        | (go_at_call 138; (with_reducible refine (cE _).mono ?_); rintro e w2 ⟨rfl, hb2⟩; have hbq : Below w1.heap.size w1 w2 := (by first | exact bt hbS hb2 | exact bt (below_dr (Below.refl w1.heap.size w1)) hb2); (try clear hbS); have hbS := hbq; clear hbq)
        | (go_at_call 139; (with_reducible refine (cP _).mono ?_); rintro e w2 ⟨rfl, hb2⟩; have hbq : Below w1.heap.size w1 w2 := (by first | exact bt hbS hb2 | exact bt (below_dr (Below.refl w1.heap.size w1)) hb2); (try clear hbS); have hbS := hbq; clear hbq)
        | fail)
    have HTF := Lib.hid (show ∀ W, Below w1.heap.size w1 W → C1 W (w.heap.size + 1) (.slice (some ⟨b1, off, none⟩) n x.c) from fun W h => T1.keep h l1)
    have HX1 := HX.out
    have hb01 := hb0
    all_goals
      have T5 := HTF.out _ hbS
      have t5 := T5.c0
      have hb5 := bt hb01 hbS
      have hX5 := HX1.next hbS
      have l5 := Nat.lt_of_lt_of_le l1 hbS.size
      clear HF hbS hb2 g0 g1 g2 g3 g4 GG T1 t0 cE cP HTF HX HX1 hb0 hb01
      cases q
    case true =>
      obtain rfl : c = false := by
        cases c with
        | false => rfl
        | true =>
          have h9 := (HC.out.1 rfl).2.2 e (by rw [Int.toNat_natCast]; exact HE.out)
          rw [← HQ.out] at h9
          cases h9
      clear HC HQ
      go_wp2_with fail
      go_ret
      exact ⟨rfl, hb5⟩
    case false =>
      have HG := Lib.hid (show (∀ u ∈ x.es, EntOk u) → c = true from fun h => HC.out.2 ⟨by rw [← HN.out, HL.out]; omega, h, fun u hu => by
        rw [Int.toNat_natCast, HE.out] at hu
        obtain rfl := Option.some.inj hu
        exact HQ.out.symm⟩)
      have HB := Lib.hid (show ∀ u ∈ x.es, ¬ EntOk u → c = false from fun u hu hno => by
        cases c with
        | false => rfl
        | true => exact absurd ((HC.out.1 rfl).2.1 u hu) hno)
      clear HC HQ HE
      go_wp2_with fail
      go_loopw [31] (fun i w' => ∃ k : Nat, k ≤ n ∧ i = .int .i64 k ∧ (∀ u ∈ x.es.take k, EntOk u) ∧ Below w2.heap.size w2 w') (fun i _ => n - (RowKit.intOf i).toNat)
      case atStart => exact ⟨0, by omega, rfl, fun u hu => by simp at hu, Below.refl _ _⟩
      case round =>
        obtain ⟨w6, rfl⟩ : ∃ x, x = wr := ⟨wr, rfl⟩
        obtain ⟨k, hk, rfl, hok, hbr⟩ := hrel
        clear t5 T5
        by_cases hlt : k < n
        · have j1 : (k : Int) < (n : Int) := by omega
          obtain ⟨b2, off2, u, hA2, hb2, c0, c1, c2, hu, e2⟩ := ent_at (hX5.next hbr).h (show k < x.es.length by have := HN.out; omega)
          obtain ⟨rfl, rfl⟩ : b1 = b2 ∧ off = off2 := by
            have h9 := HA.out.symm.trans hA2
            simp only [Option.some.injEq, Addr.mk.injEq, and_true] at h9
            exact h9
          have HT := Lib.hid (take_next e2)
          have HU := Lib.hid hu
          have hbe := bl w6 (.cells #[.int .i64 u.st, .int .i64 u.sm, .bool u.ls] 111)
          obtain ⟨st, hst0⟩ : ∃ q, q = u.st := ⟨_, rfl⟩
          obtain ⟨sm, hsm0⟩ : ∃ q, q = u.sm := ⟨_, rfl⟩
          rw [← hst0] at c0 hbe
          rw [← hsm0] at c1 hbe
          have HS := Lib.hid hst0
          have HM := Lib.hid hsm0
          have HOK := Lib.hid hok
          clear hA2 hu e2 hst0 hsm0 hok
          have hbf := bt (bt hb5 hbr) hbe
          have hbg := bt hbr hbe
          by_cases hst : 0 ≤ st ∧ st ≤ 4294967295
          · have cS := fun W => isNum_at true st W (iff_of_true rfl hst)
            by_cases hsm : 0 ≤ sm ∧ sm ≤ 4294967295
            · have cM := fun W => isNum_at true sm W (iff_of_true rfl hsm)
              have HK := Lib.hid (show EntOk u from ⟨by rw [← HS.out]; exact hst, by rw [← HM.out]; exact hsm⟩)
              clear hst hsm
              go_wp2_with (first
                | (go_at_call 140; (with_reducible refine (cS _).mono ?_); rintro e w' ⟨rfl, rfl⟩)
                | (go_at_call 140; (with_reducible refine (cM _).mono ?_); rintro e w' ⟨rfl, rfl⟩))
              go_roundw
              case rel => exact ⟨k + 1, by omega, by go_num, by rw [HT.out]; intro v hv; rcases List.mem_append.1 hv with hv | hv; exact HOK.out v hv; (rw [List.mem_singleton.1 hv]; exact HK.out), hbg⟩
              case measure => simp [RowKit.intOf]; omega
            · have cM := fun W => isNum_at false sm W (iff_of_false Bool.false_ne_true hsm)
              obtain rfl : c = false := HB.out u HU.out fun h => hsm (by have := h.2; rwa [← HM.out] at this)
              clear hst hsm HG HB
              go_wp2_with (first
                | (go_at_call 140; (with_reducible refine (cS _).mono ?_); rintro e w' ⟨rfl, rfl⟩)
                | (go_at_call 140; (with_reducible refine (cM _).mono ?_); rintro e w' ⟨rfl, rfl⟩))
              go_ret
              exact ⟨rfl, hbf⟩
          · have cS := fun W => isNum_at false st W (iff_of_false Bool.false_ne_true hst)
            obtain rfl : c = false := HB.out u HU.out fun h => hst (by have := h.1; rwa [← HS.out] at this)
            clear hst HG HB
            go_wp2_with (go_at_call 140; (with_reducible refine (cS _).mono ?_); rintro e w' ⟨rfl, rfl⟩)
            go_ret
            exact ⟨rfl, hbf⟩
        · have j1 : ¬ (k : Int) < (n : Int) := by omega
          obtain rfl : c = true := HG.out (by rw [List.take_of_length_le (by have := HN.out; omega)] at hok; exact hok)
          have hbf := bt hb5 hbr
          clear HG HB hok
          go_wp2_with fail
          go_ret
          exact ⟨rfl, hbf⟩
end Go.Proofs.YtbfdpibjicjagaaGreatDoor.tbl
namespace Go.Proofs.YtbfdpibjicjagaaGreatDoor.tbl
open Go.RowKit Go.Lib
open Go.Proofs.YtbfdpibjicjagaaGreatDoor.gmt (Ok five_new)
open Go.Proofs.YtbfdpibjicjagaaGreatDoor.anc (flat_get flat_len slv_cell bl kal kst ks bm ka row_form row_below)
section
variable {P : Program}
theorem run_copy_n (w : World) (dT sT ty elem : TypeId) (sz k g o dLen dCap : Nat) (a : Addr) (sLen sCap : Nat) (cur : Array Value) (t : TypeId) (cs : List Value)
    (hu : P.underlying dT = some (.slice elem)) (hs : (P.info? elem).map (·.size) = some sz)
    (hg : w.heap[g]? = some (.cells cur t (0, 0))) (hk : k = Nat.min sLen dLen) (hn : cs.length = k * sz)
    (hsrc : ∀ j v, cs[j]? = some v → w.cell? (a.add j) = some v) (hfit : o + cs.length ≤ cur.size) (h1 : ∀ v ∈ cs, v.oneCell' = true) :
    (Builtin.copy_ #[dT, sT] ty #[.slice (some ⟨g, o, none⟩) dLen dCap, .slice (some a) sLen sCap]).run P w =
      .ok (goInt k) (w.setRow g (cur.toList.take o ++ cs ++ cur.toList.drop (o + cs.length)).toArray) := by
  have hl := run_loadCells_list (P := P) w a cs hsrc
  have hst := run_storeCells_at P g o t cs 0 cur w hg (by simpa using hfit) h1
  rw [hn] at hl
  cases hq : P.info? elem with
  | none => simp [hq] at hs
  | some i =>
    have hi : i.size = sz := by simpa [hq] using hs
    simp [Builtin.copy_, run_underlying hu, Builtin.lenOf, Builtin.firstCells, sizeOf, typeInfo, hq, hi, ← hk, hl, hst]
theorem wpList_copy_n {w : World} {ops : Array Oper} {rest : List Oper} {o : Oper} {a : Act} {Q : Exit → Act → World → Prop} (hgd : o.guard = none) (d s : Operand) (dT sT : TypeId)
    (ho : o.op = .call { callee := .builtin .copy, args := #[d, s], argTypes := #[dT, sT] }) (elem : TypeId) (sz k : Nat) (hu : P.underlying dT = some (.slice elem)) (hsz : (P.info? elem).map (·.size) = some sz)
    (g off dLen dCap : Nat) (ad : Addr) (sLen sCap : Nat) (hd : a.eval d = .slice (some ⟨g, off, none⟩) dLen dCap) (hs : a.eval s = .slice (some ad) sLen sCap)
    (cur : List Value) (t : TypeId) (hg : w.heap[g]? = some (.cells cur.toArray t (0, 0))) (cs : List Value) (hk : k = Nat.min sLen dLen) (hn : cs.length = k * sz)
    (hsrc : ∀ j v, cs[j]? = some v → w.cell? (ad.add j) = some v) (hfit : off + cs.length ≤ cur.length) (h1 : ∀ v ∈ cs, v.oneCell' = true) (B : Nat) (w0 : World) (hb : Below B w0 w) (hBg : B ≤ g)
    (h : ∀ w', Hid (w'.heap[g]? = some (.cells (splice cur off cs).toArray t (0, 0))) → Below B w0 w' → wpList P ops Q rest (a.put o.dst (goInt k)) w') : wpList P ops Q (o :: rest) a w := by
  refine wpList_plain hgd fun K hK => ?_
  have hrun := run_copy_n (P := P) w dT sT o.type elem sz k g off dLen dCap ad sLen sCap cur.toArray t cs hu hsz hg hk hn hsrc (by simpa using hfit) h1
  unfold Oper.wp
  simp [execOp, ho, resolve, invoke, builtin, hd, hs, hrun, Result.andThen]
  exact hK _ _ (h _ (show _ = _ by simpa [splice] using setRow_heap w g _ _ t _ hg) (below_setRow hb hBg _))
theorem step_copy_n {ops : Array Oper} {o : Oper} {a : Act} {w : World} {K : Act → World → Prop} {Q : Exit → Act → World → Prop} {E : Prop} (hgd : o.guard = none) (d s : Operand) (dT sT : TypeId)
    (ho : o.op = .call { callee := .builtin .copy, args := #[d, s], argTypes := #[dT, sT] }) (elem : TypeId) (sz k : Nat) (hu : P.underlying dT = some (.slice elem)) (hsz : (P.info? elem).map (·.size) = some sz)
    (g off dLen dCap : Nat) (ad : Addr) (sLen sCap : Nat) (hd : a.eval d = .slice (some ⟨g, off, none⟩) dLen dCap) (hs : a.eval s = .slice (some ad) sLen sCap)
    (cur : List Value) (t : TypeId) (hg : w.heap[g]? = some (.cells cur.toArray t (0, 0))) (cs : List Value) (hk : k = Nat.min sLen dLen) (hn : cs.length = k * sz)
    (hsrc : ∀ j v, cs[j]? = some v → w.cell? (ad.add j) = some v) (hfit : off + cs.length ≤ cur.length) (h1 : ∀ v ∈ cs, v.oneCell' = true) (B : Nat) (w0 : World) (hb : Below B w0 w) (hBg : B ≤ g)
    (h : ∀ w', Hid (w'.heap[g]? = some (.cells (splice cur off cs).toArray t (0, 0))) → Below B w0 w' → K (a.put o.dst (goInt k)) w') :
    if Region.wanted o (yielded ops a.tmps) = true then Oper.wp P o a w K Q else E := by
  have hw : Region.wanted o (yielded ops a.tmps) = true := by simp [Region.wanted, hgd]
  rw [if_pos hw]
  have hrun := run_copy_n (P := P) w dT sT o.type elem sz k g off dLen dCap ad sLen sCap cur.toArray t cs hu hsz hg hk hn hsrc (by simpa using hfit) h1
  unfold Oper.wp
  simp [execOp, ho, resolve, invoke, builtin, hd, hs, hrun, Result.andThen]
  exact h _ (show _ = _ by simpa [splice] using setRow_heap w g _ _ t _ hg) (below_setRow hb hBg _)
end
theorem owns_whole {w : World} {base g k sz : Nat} {e : TypeId} {xs : List Value} (h : w.ownsRow base e sz (.slice (some ⟨g, 0, none⟩) k k) k xs) : w.heap[g]? = some (.cells xs.toArray e (0, 0)) := by
  rcases h.2 with ⟨h1, -⟩ | ⟨g', cap, cur, hv, -, hg, -, -, hs, ht⟩
  · cases h1
  · simp only [Value.slice.injEq, Option.some.injEq, Addr.mk.injEq, and_true] at hv
    obtain ⟨rfl, -, rfl⟩ := hv
    rw [hg, ← ht, List.take_of_length_le (by rw [Array.length_toList, hs]; omega)]
theorem whole_owns {w : World} {base g k sz : Nat} {e : TypeId} {xs : List Value} (hg : w.heap[g]? = some (.cells xs.toArray e (0, 0))) (hb : base ≤ g) (hx : xs.length = k * sz) (hm : k ≤ maxLen) : w.ownsRow base e sz (.slice (some ⟨g, 0, none⟩) k k) k xs :=
  ⟨hx, .inr ⟨g, k, xs.toArray, rfl, hb, hg, Nat.le_refl _, hm, by simp [hx], by rw [List.toList_toArray, List.take_of_length_le (by omega)]⟩⟩
def reps (p : List Value) (q : Nat) : List Value := (List.replicate q p).flatten
def pats (p z : List Value) (q r : Nat) : List Value := reps p q ++ reps z r
theorem reps_length {p : List Value} (hp : p.length = 3) : ∀ q, (reps p q).length = q * 3
  | 0 => rfl
  | q + 1 => by
    have := reps_length hp q
    unfold reps at *
    rw [List.replicate_succ, List.flatten_cons, List.length_append, this, hp]
    omega
theorem reps_add (p : List Value) (q r : Nat) : reps p (q + r) = reps p q ++ reps p r := by
  unfold reps
  rw [← List.flatten_append, List.replicate_append_replicate]
theorem reps_one {p : List Value} (h : ∀ u ∈ p, u.oneCell' = true) (q : Nat) : ∀ u ∈ reps p q, u.oneCell' = true := by
  intro u hu
  obtain ⟨l, hl, h2⟩ := List.mem_flatten.1 hu
  rw [List.eq_of_mem_replicate hl] at h2
  exact h u h2
theorem pats_length {p z : List Value} (hp : p.length = 3) (hz : z.length = 3) (q r : Nat) : (pats p z q r).length = (q + r) * 3 := by
  unfold pats
  rw [List.length_append, reps_length hp, reps_length hz]
  omega
theorem pats_splice {p z : List Value} (hp : p.length = 3) (hz : z.length = 3) (q r c n : Nat) (hc : c ≤ r) (hn : n = q * 3) : splice (pats p z q r) n (reps p c) = pats p z (q + c) (r - c) := by
  obtain ⟨s, rfl⟩ : ∃ s, r = c + s := ⟨r - c, by omega⟩
  unfold splice pats
  rw [hn, List.take_left' (by rw [reps_length hp]), ← List.drop_drop, List.drop_left' (by rw [reps_length hp]), reps_add z c s, List.drop_left' (by rw [reps_length hz, reps_length hp]), reps_add p q c, List.append_assoc, show c + s - c = s by omega]
theorem pats_get {p z : List Value} {q r c j : Nat} {v : Value} (hc : c ≤ q) (h : (reps p c)[j]? = some v) : (pats p z q r)[j]? = some v := by
  obtain ⟨s, rfl⟩ : ∃ s, q = c + s := ⟨q - c, by omega⟩
  unfold pats
  rw [reps_add p c s, List.append_assoc, List.getElem?_append_left (List.getElem?_eq_some_iff.1 h).1]
  exact h
theorem pats_all (p z : List Value) (q : Nat) : pats p z q 0 = reps p q := by simp [pats, reps]
theorem pats_none (p z : List Value) (r : Nat) : pats p z 0 r = reps z r := by simp [pats, reps]
theorem reps_once (p : List Value) : reps p 1 = p := by simp [reps]
theorem mul64_3_2 (w : World) : Calls Tryz.prog 145 #[.int .u64 3, .int .u64 2] w fun e w' => e = .returned (.tuple #[.int .u64 0, .int .u64 6]) ∧ w = w' := by
  go_enter Tryz.func145, Tryz.ntmps145
  go_wp2
  go_ret2
  exact ⟨rfl, rfl⟩
theorem mul_3_2 (w : World) : Calls Tryz.prog 143 #[.int .u64 3, .int .u64 2] w fun e w' => e = .returned (.tuple #[.int .u64 0, .int .u64 6]) ∧ w = w' := by
  go_enter Tryz.func143, Tryz.ntmps143
  go_wp2_with (go_at_call 145; (with_reducible refine (mul64_3_2 _).mono ?_); rintro e w' ⟨rfl, rfl⟩)
  go_ret2
  exact ⟨rfl, rfl⟩
theorem mul64_3_3 (w : World) : Calls Tryz.prog 145 #[.int .u64 3, .int .u64 3] w fun e w' => e = .returned (.tuple #[.int .u64 0, .int .u64 9]) ∧ w = w' := by
  go_enter Tryz.func145, Tryz.ntmps145
  go_wp2
  go_ret2
  exact ⟨rfl, rfl⟩
theorem mul_3_3 (w : World) : Calls Tryz.prog 143 #[.int .u64 3, .int .u64 3] w fun e w' => e = .returned (.tuple #[.int .u64 0, .int .u64 9]) ∧ w = w' := by
  go_enter Tryz.func143, Tryz.ntmps143
  go_wp2_with (go_at_call 145; (with_reducible refine (mul64_3_3 _).mono ?_); rintro e w' ⟨rfl, rfl⟩)
  go_ret2
  exact ⟨rfl, rfl⟩
theorem mul64_3_4 (w : World) : Calls Tryz.prog 145 #[.int .u64 3, .int .u64 4] w fun e w' => e = .returned (.tuple #[.int .u64 0, .int .u64 12]) ∧ w = w' := by
  go_enter Tryz.func145, Tryz.ntmps145
  go_wp2
  go_ret2
  exact ⟨rfl, rfl⟩
theorem mul_3_4 (w : World) : Calls Tryz.prog 143 #[.int .u64 3, .int .u64 4] w fun e w' => e = .returned (.tuple #[.int .u64 0, .int .u64 12]) ∧ w = w' := by
  go_enter Tryz.func143, Tryz.ntmps143
  go_wp2_with (go_at_call 145; (with_reducible refine (mul64_3_4 _).mono ?_); rintro e w' ⟨rfl, rfl⟩)
  go_ret2
  exact ⟨rfl, rfl⟩
theorem mul64_3_5 (w : World) : Calls Tryz.prog 145 #[.int .u64 3, .int .u64 5] w fun e w' => e = .returned (.tuple #[.int .u64 0, .int .u64 15]) ∧ w = w' := by
  go_enter Tryz.func145, Tryz.ntmps145
  go_wp2
  go_ret2
  exact ⟨rfl, rfl⟩
theorem mul_3_5 (w : World) : Calls Tryz.prog 143 #[.int .u64 3, .int .u64 5] w fun e w' => e = .returned (.tuple #[.int .u64 0, .int .u64 15]) ∧ w = w' := by
  go_enter Tryz.func143, Tryz.ntmps143
  go_wp2_with (go_at_call 145; (with_reducible refine (mul64_3_5 _).mono ?_); rintro e w' ⟨rfl, rfl⟩)
  go_ret2
  exact ⟨rfl, rfl⟩
def zI : List Value := [.int .i64 0, .int .i64 0, .int .i64 0]
theorem zI_cells (k : Nat) (hk : k ≤ 5) : (madeCells (Value.int .i64 0).cells (k * 3)).toList = reps zI k := by
  rcases (show k = 0 ∨ k = 1 ∨ k = 2 ∨ k = 3 ∨ k = 4 ∨ k = 5 by omega) with rfl | rfl | rfl | rfl | rfl | rfl <;> kernel_rfl
theorem makeI (n k base : Nat) (W : World) (hk : k ≤ 5) (hn : n = k * 3) (hb : base ≤ W.heap.size) :
    ∃ w', (Instr.makeSlice 43 (.int .i64 (n : Int)) (.int .i64 (n : Int))).run Tryz.prog W = .ok (.slice (some ⟨W.heap.size, 0, none⟩) n n) w' ∧
      w'.heap[W.heap.size]? = some (.cells (pats [] zI 0 k).toArray 3 (0, 0)) ∧ W.grownBy w' none := by
  obtain ⟨ht, _, i, hi, hz, h1, hb8⟩ := tvI
  obtain ⟨w', hr, ho, hg⟩ := run_makeSlice_full (P := Tryz.prog) (w := W) base 43 3 i (.int .i64 0) 1 ht hi hz h1 .i64 .i64 n (by omega) (by rw [hb8]; omega) (by unfold maxLen; omega) hb
  refine ⟨w', hr, ?_, hg⟩
  have h9 := owns_whole ho
  rw [show n * 1 = k * 3 by omega, zI_cells k hk] at h9
  rw [pats_none]
  exact h9
def RepI (base n : Nat) (l : List Value) (e : Ending) (w' : World) : Prop := ∃ A c, e = .returned (.slice A n c) ∧ w'.ownsRow base 3 1 (.slice A n c) n l
theorem repI_any (n k : Nat) (a : Addr) (c B : Nat) (p : List Value) (w : World) (h1 : 1 ≤ k) (h2 : k ≤ 5) (hn : n = k * 3) (hp : p.length = 3) (hp1 : ∀ u ∈ p, u.oneCell' = true) (hA : SlV w B (some a) p) (hB : B ≤ w.heap.size)
    (cM : ∀ W, Calls Tryz.prog 143 #[.int .u64 3, .int .u64 k] W fun e w' => e = .returned (.tuple #[.int .u64 0, .int .u64 n]) ∧ W = w') :
    Calls Tryz.prog 141 #[.slice (some a) 3 c, .int .i64 k] w fun e w' => RepI w.heap.size n (reps p k) e w' ∧ Below w.heap.size w w' := by
  obtain ⟨w1, hmk, hw1, hg1⟩ := makeI n k w.heap.size w h2 hn (Nat.le_refl _)
  have hb1 : Below w.heap.size w w1 := (Below.refl _ _).grown hg1 (Nat.le_refl _) (fun k hk => by cases hk)
  have src := hA.below (hb1.mono hB)
  have i1 : (1 : Int) ≤ (k : Int) := by omega
  have i2 : (k : Int) ≤ 5 := by omega
  have i3 : (3 : Int) ≤ (n : Int) := by omega
  have i4 : (n : Int) ≤ 15 := by omega
  have hz3 : zI.length = 3 := rfl
  have hsz : (Tryz.prog.info? 3).map (·.size) = some 1 := by kernel_rfl
  have HS : Hid (∀ j v, p[j]? = some v → w1.cell? (a.add j) = some v) := Lib.hid fun j v hj => by
    obtain ⟨b, off, ha, -, hc⟩ := src (by omega)
    obtain rfl := Option.some.inj ha
    obtain ⟨hj1, rfl⟩ := List.getElem?_eq_some_iff.1 hj
    rw [Addr.add_lit]
    exact hc j hj1
  have HW := Lib.hid (show w1.heap[w.heap.size]? = some (.cells (pats p zI 0 k).toArray 3 (0, 0)) from hw1)
  have HU := Lib.hid (Tryz.underlying43)
  have HZ := Lib.hid hsz
  have HP := Lib.hid hp
  have HP1 := Lib.hid hp1
  have HN := Lib.hid hn
  have HZ3 := Lib.hid hz3
  clear hA src hw1 hg1 hsz hp hp1 hn hz3
  go_enter Tryz.func141, Tryz.ntmps141
  go_wp2_with (first
    | (go_at_call 143; (with_reducible refine (cM _).mono ?_); rintro e w' ⟨rfl, rfl⟩)
    | (refine wpList_copy_n (o := ⟨some 33, _, _, _, _, _⟩) rfl (.tmp 31) (.tmp 32) _ _ rfl 3 1 3 HU.out HZ.out w.heap.size 0 _ _ a _ _ rfl rfl (pats p zI 0 k) 3 HW.out p ?q1 HP.out HS.out ?q3 HP1.out w.heap.size w hb1 (Nat.le_refl _) ?_
       case q1 => show 3 = Nat.min 3 n; simp only [Nat.min_def]; split <;> omega
       case q3 => rw [pats_length HP.out HZ3.out, HP.out]; omega
       intro w2 HG2 hb2))
  have e1 : splice (pats p zI 0 k) 0 p = pats p zI 1 (k - 1) := by
    have h9 := pats_splice HP.out HZ3.out 0 k 1 0 h1 rfl
    rwa [reps_once] at h9
  rw [e1] at HG2
  clear e1 HW HS cM hmk hb1 w1
  go_loopw [8] (fun i w' => ∃ q e : Nat, 1 ≤ q ∧ q ≤ k ∧ Hid (e = q * 3) ∧ i = .int .i64 e ∧ Hid (w'.heap[w.heap.size]? = some (.cells (pats p zI q (k - q)).toArray 3 (0, 0))) ∧ Below w.heap.size w w') (fun i _ => n - (RowKit.intOf i).toNat)
  case atStart => exact ⟨1, 3, Nat.le_refl _, h1, Lib.hid rfl, rfl, HG2, hb2⟩
  case round =>
    clear HG2 hb2
    obtain ⟨w3, rfl⟩ : ∃ x, x = wr := ⟨wr, rfl⟩
    obtain ⟨q, e, hq1, hqk, HE, rfl, HG, hbr⟩ := hrel
    by_cases hlt : q < k
    · obtain ⟨m, hm⟩ : ∃ m, m = Nat.min q (k - q) := ⟨_, rfl⟩
      have hm1 : q + m ≤ k := by rw [hm]; simp only [Nat.min_def]; split <;> omega
      have hm2 : 1 ≤ m := by rw [hm]; simp only [Nat.min_def]; split <;> omega
      have hm3 : m ≤ q := by rw [hm]; exact Nat.min_le_left _ _
      have hm4 : m * 3 = Nat.min e (n - e) := by
        have := HE.out
        have := HN.out
        have := hm
        simp only [Nat.min_def] at *
        split at * <;> split <;> omega
      have hmx : m * 3 ≤ 15 := by omega
      have hex : e + m * 3 ≤ n := by have := HE.out; have := HN.out; omega
      obtain ⟨M, hM⟩ : ∃ M, M = m * 3 := ⟨_, rfl⟩
      rw [← hM] at hm4 hmx hex
      have HM := Lib.hid hm
      have HM4 := Lib.hid hm4
      have HMM := Lib.hid hM
      have j1 : (e : Int) < (n : Int) := by have := HE.out; have := HN.out; omega
      have j2 : (0 : Int) ≤ (e : Int) := by omega
      have j3 : (e : Int) ≤ (n : Int) := by omega
      have j4 : (n : Int) ≤ (n : Int) := by omega
      have hkn : ¬ n = e := by omega
      have k1 : IntKind.i64.wrap ((e : Int) + (M : Int)) = ((e + M : Nat) : Int) := by
        rw [← Int.natCast_add]
        exact IntWalk.i64_in _ (by omega)
      clear hm hm4 hM
      go_wp2_with fail
      go_region_held3 (fun _ => True) (exact trivial)
        (
            (refine step_copy_n rfl (.tmp 41) (.tmp 44) _ _ rfl 3 1 M HU.out HZ.out w.heap.size (e) _ _ ⟨w.heap.size, 0, none⟩ _ _ rfl rfl (pats p zI q (k - q)) 3 HG.out (reps p m) ?q1 ?q2 ?q3 ?q4 (reps_one HP1.out m) w.heap.size w (below_dr hbr) (Nat.le_refl _) ?_
             case q1 => exact HM4.out
             case q2 => rw [reps_length HP.out, HMM.out]; omega
             case q3 =>
               intro j v hj
               have hgd : w3.drew.heap[w.heap.size]? = some (.cells (pats p zI q (k - q)).toArray 3 (0, 0)) := HG.out
               rw [Addr.add_lit, cell_of_row _ _ _ _ _ _ hgd, Nat.zero_add]
               have := pats_get (z := zI) (r := k - q) hm3 hj
               simpa using this
             case q4 => rw [pats_length HP.out HZ3.out, reps_length HP.out]; have := HE.out; omega
             intro w4 HG4 hb4))
      rw [pats_splice HP.out HZ3.out q (k - q) m _ (by omega) (by have := HE.out; omega), show k - q - m = k - (q + m) by omega] at HG4
      clear hkn k1
      go_wp2_with fail
      go_roundw
      case rel => exact ⟨q + m, e + M, by omega, hm1, Lib.hid (by have := HE.out; have := HMM.out; omega), by go_num, HG4, hb4⟩
      case measure => have hmm := HMM.out; simp [RowKit.intOf]; omega
    · obtain rfl : q = k := by omega
      obtain rfl : e = n := by rw [HE.out, HN.out]
      have hgo := HG.out
      rw [Nat.sub_self, pats_all] at hgo
      have HO := Lib.hid (whole_owns (base := w.heap.size) (k := e) (sz := 1) hgo (Nat.le_refl _) (by rw [reps_length HP.out]; have := HN.out; omega) (by unfold maxLen; omega))
      clear hgo
      go_wp2_with fail
      go_ret
      exact ⟨⟨_, _, rfl, HO.out⟩, hbr⟩
end Go.Proofs.YtbfdpibjicjagaaGreatDoor.tbl
namespace Go.Proofs.YtbfdpibjicjagaaGreatDoor.tbl
open Go.RowKit Go.Lib
open Go.Proofs.YtbfdpibjicjagaaGreatDoor.gmt (Ok five_new check_ok check_no)
open Go.Proofs.YtbfdpibjicjagaaGreatDoor.anc (flat_get flat_len slv_cell bl kal kst ks bm ka row_form row_below)
def row41 : List Value := [.int .i64 4, .int .i64 4, .int .i64 1]
theorem row41_one : ∀ u ∈ row41, u.oneCell' = true := by
  intro u hu
  simp only [row41, List.mem_cons, List.not_mem_nil, or_false] at hu
  rcases hu with rfl | rfl | rfl <;> rfl
def SzsQ (e : Ending) (w' : World) : Prop := ∃ a c, e = .returned (.slice (some a) 3 c) ∧ SlV w' w'.heap.size (some a) row41
theorem entrySizes_at (w : World) :
    Calls Tryz.prog 136 #[] w fun e w' => SzsQ e w' ∧ Below w.heap.size w w' := by
  have hs : SlV (w.alloc (.cells #[.int .i64 4, .int .i64 4, .int .i64 1] 3)) (w.alloc (.cells #[.int .i64 4, .int .i64 4, .int .i64 1] 3)).heap.size (some ⟨w.heap.size, 0, none⟩) row41 := SlV.of_block (heap_alloc_new w _) rfl (by simp)
  have B0 := bl w (.cells #[.int .i64 4, .int .i64 4, .int .i64 1] 3)
  go_enter Tryz.func136, Tryz.ntmps136
  go_wp2
  go_ret
  exact ⟨⟨_, _, rfl, hs⟩, B0⟩
theorem repI_at (D : Nat) (a : Addr) (c : Nat) (p : List Value) (w : World) (h1 : 1 ≤ D) (h2 : D ≤ 4) (hp : p.length = 3) (hp1 : ∀ u ∈ p, u.oneCell' = true) (hA : SlV w w.heap.size (some a) p) :
    Calls Tryz.prog 141 #[.slice (some a) 3 c, .int .i64 ((D : Int) + 1)] w fun e w' => RepI w.heap.size ((D + 1) * 3) (reps p (D + 1)) e w' ∧ Below w.heap.size w w' := by
  rcases (show D = 1 ∨ D = 2 ∨ D = 3 ∨ D = 4 by omega) with rfl | rfl | rfl | rfl
  · exact repI_any 6 2 a c w.heap.size p w (by omega) (by omega) rfl hp hp1 hA (Nat.le_refl _) mul_3_2
  · exact repI_any 9 3 a c w.heap.size p w (by omega) (by omega) rfl hp hp1 hA (Nat.le_refl _) mul_3_3
  · exact repI_any 12 4 a c w.heap.size p w (by omega) (by omega) rfl hp hp1 hA (Nat.le_refl _) mul_3_4
  · exact repI_any 15 5 a c w.heap.size p w (by omega) (by omega) rfl hp hp1 hA (Nat.le_refl _) mul_3_5
theorem tableSizes_at (z s l a : Int) (D : Nat) (w : World) (h1 : 1 ≤ D) (h2 : D ≤ 4) :
    Calls Tryz.prog 134 #[.agg #[.int .i64 z, .int .i64 D, .int .i64 s, .int .i64 l, .int .i64 a]] w fun e w' => RepI w.heap.size ((D + 1) * 3) (reps row41 (D + 1)) e w' ∧ Below w.heap.size w w' := by
  have GG := g5_new w z D s l a
  have hb0 := bl w (.cells #[.int .i64 z, .int .i64 D, .int .i64 s, .int .i64 l, .int .i64 a] 23)
  have l1 : w.heap.size < (w.alloc (.cells #[.int .i64 z, .int .i64 D, .int .i64 s, .int .i64 l, .int .i64 a] 23)).heap.size := by simp
  have cE := fun W => entryCount_at z s l a D W h2
  have cR := fun (a : Addr) (c : Nat) (W : World) (hA : SlV W W.heap.size (some a) row41) => repI_at D a c row41 W h1 h2 rfl row41_one hA
  go_enter Tryz.func134, Tryz.ntmps134
  go_upto_region 1 with fail
  generalize w.alloc (.cells #[.int .i64 z, .int .i64 D, .int .i64 s, .int .i64 l, .int .i64 a] 23) = w0 at *
  obtain ⟨g0, g1, g2, g3, g4⟩ := id GG
  have HF := Lib.hid (show ∀ W, Below w0.heap.size w0 W → W.cell? ⟨w.heap.size, 0, none⟩ = some (.int .i64 z) ∧ W.cell? ⟨w.heap.size, 1, none⟩ = some (.int .i64 D) ∧ W.cell? ⟨w.heap.size, 2, none⟩ = some (.int .i64 s) ∧ W.cell? ⟨w.heap.size, 3, none⟩ = some (.int .i64 l) ∧ W.cell? ⟨w.heap.size, 4, none⟩ = some (.int .i64 a) ∧ Below w0.heap.size w0 W from fun W h => ⟨kst h l1 g0, kst h l1 g1, kst h l1 g2, kst h l1 g3, kst h l1 g4, h⟩)
  go_region_held3 (fun W => W.cell? ⟨w.heap.size, 0, none⟩ = some (.int .i64 z) ∧ W.cell? ⟨w.heap.size, 1, none⟩ = some (.int .i64 D) ∧ W.cell? ⟨w.heap.size, 2, none⟩ = some (.int .i64 s) ∧ W.cell? ⟨w.heap.size, 3, none⟩ = some (.int .i64 l) ∧ W.cell? ⟨w.heap.size, 4, none⟩ = some (.int .i64 a) ∧ Below w0.heap.size w0 W)
    (first
      | exact HF.out _ (below_dr (Below.refl _ _))
      | exact HF.out _ hbS
      | fail)
    (first
      | (go_at_call 138; (with_reducible refine (cE _).mono ?_); rintro e w2 ⟨rfl, hb2⟩; (try replace sl := sl.next hb2); have hbq : Below w0.heap.size w0 w2 := (by first | exact bt hbS hb2 | exact bt (below_dr (Below.refl w0.heap.size w0)) hb2); (try clear hbS); have hbS := hbq; clear hbq)
      | (go_at_call 136; (with_reducible refine (entrySizes_at _).mono ?_); rintro e w2 ⟨⟨a2, c2, rfl, sl⟩, hb2⟩; have hbq : Below w0.heap.size w0 w2 := (by first | exact bt hbS hb2 | exact bt (below_dr (Below.refl w0.heap.size w0)) hb2); (try clear hbS); have hbS := hbq; clear hbq)
      | (go_at_call 141; (with_reducible refine (cR _ _ _ ?_).mono ?_); (focus exact sl); rintro e w3 ⟨⟨A3, c3, rfl, o3⟩, hb3⟩; have hbR := hbS.size; have hbq : Below w0.heap.size w0 w3 := bt hbS hb3; clear hbS; have hbS := hbq; clear hbq)
      | fail)
  all_goals
    go_wp2_with fail
    go_ret
    exact ⟨⟨_, _, rfl, by
      have h9 := o3
      refine ⟨h9.1, ?_⟩
      rcases h9.2 with k | ⟨g, cap, cur, q1, q2, q3⟩
      · exact .inl k
      · exact .inr ⟨g, cap, cur, q1, by have := hb0.size; omega, q3⟩⟩, bt hb0 hbS⟩
end Go.Proofs.YtbfdpibjicjagaaGreatDoor.tbl
namespace Go.Proofs.YtbfdpibjicjagaaGreatDoor.tbl
open Go.RowKit Go.Lib
open Go.Proofs.YtbfdpibjicjagaaGreatDoor.gmt (Ok five_new check_ok check_no)
open Go.Proofs.YtbfdpibjicjagaaGreatDoor.anc (flat_get flat_len slv_cell bl kal kst ks bm ka row_form row_below)
open Go.Proofs.YtbfdpibjicjagaaGreatDoor.pck (le le_length AllFit Fits Sz bytesOf Rowed row_any)
theorem flag_n (c : Bool) (w : World) :
    Calls Tryz.prog 137 #[.bool c] w fun e w' => e = .returned (.int .i64 ((lsN c : Nat) : Int)) ∧ w = w' := by
  have h := flag_at c w
  cases c <;> exact h
theorem owns_sl {w : World} {base n c : Nat} {e : TypeId} {A : Option Addr} {vs : List Value} (h : w.ownsRow base e 1 (.slice A n c) n vs) : SlV w w.heap.size A vs := by
  obtain ⟨A', c', hv, -, -, hs⟩ := row_form h
  simp only [Value.slice.injEq] at hv
  obtain ⟨rfl, -, -⟩ := hv
  exact hs
end Go.Proofs.YtbfdpibjicjagaaGreatDoor.tbl
namespace Go.Proofs.YtbfdpibjicjagaaGreatDoor.tbl
open Go.RowKit Go.Lib
open Go.Proofs.YtbfdpibjicjagaaGreatDoor.gmt (Ok five_new check_ok check_no)
open Go.Proofs.YtbfdpibjicjagaaGreatDoor.anc (flat_get flat_len slv_cell bl kal kst ks bm ka row_form row_below)
end Go.Proofs.YtbfdpibjicjagaaGreatDoor.tbl
namespace Go.Proofs.YtbfdpibjicjagaaGreatDoor.tbl
open Go.RowKit Go.Shelf Go.Lib
attribute [local go_sem] Oper.semAt_some
def up (n : Nat) : List (Fin n) := List.finRange n
theorem up_length (n : Nat) : (up n).length = n := by simp [up]
theorem up_get {n k : Nat} (h : k < n) : (up n)[k]? = some ⟨k, h⟩ := by
  unfold up
  rw [List.getElem?_eq_getElem (by simpa using h)]
  simp
def encC (b off n : Nat) (i : Fin n) : Array Value := #[.slice (some ⟨b, off + i.val * 3, none⟩) 3 3]
def KC (s n : Nat) (W W' : World) : Prop := W'.heap[s]? = W.heap[s]? ∧ W'.heap[n]? = W.heap[n]?
theorem KC.refl (s n : Nat) (W : World) : KC s n W W := ⟨rfl, rfl⟩
theorem KC.trans {s n : Nat} {A B C : World} (h : KC s n A B) (k : KC s n B C) : KC s n A C := ⟨k.1.trans h.1, k.2.trans h.2⟩
theorem KC.cellS {s n : Nat} {A B : World} (h : KC s n A B) : B.cell? ⟨s, 0, none⟩ = A.cell? ⟨s, 0, none⟩ := World.cell?_of_block h.1
theorem KC.cellN {s n : Nat} {A B : World} (h : KC s n A B) : B.cell? ⟨n, 0, none⟩ = A.cell? ⟨n, 0, none⟩ := World.cell?_of_block h.2
theorem chunk1_in (n : Nat) (hn : 1 ≤ n) (l Bs Bn b off c K m : Nat) (hm : m = K * 3) (hK : K ≤ 1024) (hmc : m ≤ c) (J Jx : List (Fin K) → World → Prop)
    (hJD : ∀ pre W k, J pre W → J pre (World.drewN W k))
    (hY : ∀ pre x W, J pre W → pre.length < K → YieldAt Fence.wide (n - 1) Tryz.prog l (encC b off K x) W fun e W' =>
      (e = .returned (.bool true) ∧ J (pre ++ [x]) W' ∧ KC Bs Bn W W') ∨ (e = .returned (.bool false) ∧ Jx (pre ++ [x]) W'))
    (W : World) (hBs : W.cell? ⟨Bs, 0, none⟩ = some (.slice (some ⟨b, off, none⟩) m c)) (hBn : W.cell? ⟨Bn, 0, none⟩ = some (.int .i64 3)) (h0 : J [] W) :
    CallsIn Fence.wide n Tryz.prog 142 #[.func (.yield l) #[] #[], .pointer (some ⟨Bs, 0, none⟩), .pointer (some ⟨Bn, 0, none⟩)] W fun e W' => (∃ v, e = .returned v) ∧
      ((∃ ys, ys = up K ∧ J ys W') ∨ (∃ pre, (∃ k, k ≤ K ∧ pre = (up K).take k) ∧ Jx pre W')) := by
  have hro : Fence.wide.round = none := rfl
  have hfn : ∀ k, Fence.wide.fn k := fun _ => trivial
  have HM := Lib.hid hm
  have hm1 : m ≤ 3072 := by omega
  clear hm
  refine callsIn_of_wp Tryz.func142 rfl (hfn _) ?_ hro
  simp only [Tryz.ntmps142, List.size_toArray, List.length_cons, List.length_nil, Nat.reduceAdd, Nat.reduceSub, Array.replicate_succ, Array.replicate_zero, List.push_toArray, List.append_toArray, List.nil_append, List.cons_append]
  gi_wp2
  gi_loopw [4] (fun i wr => ∃ j e : Nat, j ≤ K ∧ Hid (e = j * 3) ∧ i = .int .i64 (e : Int) ∧ J ((up K).take j) wr ∧ KC Bs Bn W wr)
    (fun i _ => m - (RowKit.intOf i).toNat)
  case atStart => exact ⟨0, 0, Nat.zero_le _, Lib.hid rfl, rfl, h0, KC.refl _ _ _⟩
  case round =>
    obtain ⟨w3, rfl⟩ : ∃ x, x = wr := ⟨wr, rfl⟩
    obtain ⟨j, e, hk, HE, rfl, hJs, hnx⟩ := hrel
    have cS := hnx.cellS.trans hBs
    have cN := hnx.cellN.trans hBn
    by_cases hlt : j < K
    · have he3 : e + 3 ≤ m := by have := HE.out; have := HM.out; omega
      have j1 : (e : Int) < (m : Int) := by omega
      have j2 : (0 : Int) ≤ (e : Int) := by omega
      have j3 : (e : Int) ≤ (m : Int) := by omega
      have j4 : (e : Int) ≤ (c : Int) := by omega
      have j5 : (m : Int) ≤ (c : Int) := by omega
      have j6 : (3 : Int) ≤ ((m - e : Nat) : Int) := by omega
      refine wpIn_wide.2 ?_
      go_upto_region 3 with fail
      go_quiet (fail)
      have hmin : min (3 : Int) ((m - e : Nat) : Int) = 3 := by omega
      rw [hmin]
      clear hmin
      have hJ2 := hJD _ _ nq hJs
      have hnx2 : KC Bs Bn W (w3.drewN nq) := hnx
      clear hJs hnx
      generalize w3.drewN nq = w4 at *
      have cS := hnx2.cellS.trans hBs
      have cN := hnx2.cellN.trans hBn
      go_upto_region 4 with fail
      refine (wpIn_wide (n := n)).1 ?_
      obtain ⟨fn, tmps, assign, body, hy, hR'⟩ := hY _ ⟨j, hlt⟩ w4 hJ2 (by rw [List.length_take, up_length]; omega)
      unfold encC at hy
      dsimp only at hy
      have HE2 := Lib.hid (take_next (up_get hlt))
      rw [← HE.out] at hy
      have k2 : (e : Int) + 3 ≤ (c : Int) := by omega
      have k3 : (e : Int) + 3 ≤ (m : Int) := by omega
      clear hJ2 hY hJD
      gi_wp2
      refine hR'.mono ?_
      rintro e9 W3 (⟨rfl, hJ3, hk3⟩ | ⟨rfl, hJx3⟩)
      · have hnx3 := hnx2.trans hk3
        have cS3 := hnx3.cellS.trans hBs
        have cN3 := hnx3.cellN.trans hBn
        clear cS cN hR' hy
        gi_wp2
        go_wp2_with fail
        go_roundw
        case rel => exact ⟨j + 1, e + 3, by omega, Lib.hid (by have := HE.out; omega), by go_num, by rw [HE2.out]; exact hJ3, hnx3⟩
        case measure => simp [RowKit.intOf]; omega
      · clear cS cN hR' hy
        gi_wp2
        go_wp2_with fail
        refine bodyPost_ret (results_none rfl _ _ _) rfl ?_
        exact ⟨⟨_, rfl⟩, .inr ⟨_, ⟨j + 1, by omega, HE2.out.symm⟩, hJx3⟩⟩
    · obtain rfl : j = K := by omega
      have hje : e = m := by rw [HE.out, HM.out]
      rw [hje]
      clear hje
      have j7 : ¬ (m : Int) < (m : Int) := by omega
      have hJe := Lib.hid (show J (up j) w3 by rw [List.take_of_length_le (by rw [up_length]; omega)] at hJs; exact hJs)
      gi_wp2
      go_end0
      exact ⟨⟨_, rfl⟩, .inl hJe.out⟩
theorem chunk_stops (n : Nat) (hn : 1 ≤ n) (Bs Bn b off c K m : Nat) (hm : m = K * 3) (hK : K ≤ 1024) (hmc : m ≤ c) (w : World) (hBs0 : Bs < w.heap.size) (hBn0 : Bn < w.heap.size)
    (hBs : w.cell? ⟨Bs, 0, none⟩ = some (.slice (some ⟨b, off, none⟩) m c)) (hBn : w.cell? ⟨Bn, 0, none⟩ = some (.int .i64 3)) :
    SeqStopsK Fence.wide n Tryz.prog 142 #[.pointer (some ⟨Bs, 0, none⟩), .pointer (some ⟨Bn, 0, none⟩)] (encC b off K) (KC Bs Bn) (fun ys => ys = up K) (fun pre => ∃ k, k ≤ K ∧ pre = (up K).take k) K w := fun l J Jx W hW hJ _ hY h0 =>
  chunk1_in n hn l Bs Bn b off c K m hm hK hmc J Jx
    (fun pre W' k h => hJ pre W' (W'.drewN k) none h ⟨rfl, rfl, rfl, Nat.le_refl _, fun _ _ _ => rfl⟩ (fun r e => by cases e))
    hY W ((hW.cell (p := ⟨Bs, 0, none⟩) hBs0).trans hBs) ((hW.cell (p := ⟨Bn, 0, none⟩) hBn0).trans hBn) h0
theorem chunk_in (n : Nat) (A : Option Addr) (m c : Nat) (w : World) :
    CallsIn Fence.wide n Tryz.prog 135 #[.slice A m c, .int .i64 3] w fun e w' => e = .returned (.func (.func 142) #[] #[.pointer (some ⟨w.heap.size, 0, none⟩), .pointer (some ⟨w.heap.size + 1, 0, none⟩)]) ∧ w' = (w.alloc (.cells #[.slice A m c] 43)).alloc (.cells #[.int .i64 3] 3) := by
  have hro : Fence.wide.round = none := rfl
  have hfn : ∀ k, Fence.wide.fn k := fun _ => trivial
  refine callsIn_of_wp Tryz.func135 rfl (hfn _) ?_ hro
  simp only [Tryz.ntmps135, List.size_toArray, List.length_cons, List.length_nil, Nat.reduceAdd, Nat.reduceSub, Array.replicate_succ, Array.replicate_zero, List.push_toArray, List.append_toArray, List.nil_append, List.cons_append]
  gi_wp2
  go_ret
  exact ⟨rfl, rfl⟩
end Go.Proofs.YtbfdpibjicjagaaGreatDoor.tbl
namespace Go.Proofs.YtbfdpibjicjagaaGreatDoor.tbl
open Go.RowKit Go.Shelf Go.Lib
open Go.Proofs.YtbfdpibjicjagaaGreatDoor.gmt (Ok)
open Go.Proofs.YtbfdpibjicjagaaGreatDoor.anc (flat_get flat_len slv_cell bl kal kst ks bm ka row_form row_below)
open Go.Proofs.YtbfdpibjicjagaaGreatDoor.pck (le le_length num unrow behind behind_nil behind_next Unrowed unrow_any)
attribute [local go_sem] Oper.semAt_some
theorem behind_ok (l t : List Int) (r : List UInt8) : behind l (.ok (t, r)) = .ok (l ++ t, r) := rfl
theorem behind_err (l : List Int) (x : Int) : behind l (.error x) = .error x := rfl
theorem unrow_step (k : Nat) (s : Int) (ss : List Int) (b : List UInt8) (hs : s = 1 ∨ s = 2 ∨ s = 4) (hk : s = k) :
    unrow (s :: ss) b = if b.length < k then .error 4 else behind [(num (b.take k) : Int)] (unrow ss (b.drop k)) := by
  subst hk
  by_cases h : b.length < k
  · rw [unrow, if_pos hs, if_pos (by rw [Int.toNat_natCast]; exact h), if_pos h]
  · rw [if_neg h]
    have := behind_next (l := []) (ss := ss) (b := b) hs (by rw [Int.toNat_natCast]; exact h)
    rw [behind_nil, Int.toNat_natCast] at this
    exact this
theorem behind_two (a b : List Int) (r : Except Int (List Int × List UInt8)) : behind a (behind b r) = behind (a ++ b) r := by
  cases r with
  | ok p => simp [behind]
  | error x => rfl
def trip (r : List UInt8) : List Int := [(entN r).st, (entN r).sm, (lostAt r 0 : Int)]
def sizesL (k : Nat) : List Int := (List.replicate k [4, 4, 1]).flatten
theorem sizes_reps (k : Nat) : ints (sizesL k) = reps row41 k := by
  induction k with
  | zero => rfl
  | succ k ih =>
    unfold sizesL reps at *
    rw [List.replicate_succ, List.replicate_succ, List.flatten_cons, List.flatten_cons, ints_append, ih]
    rfl
theorem sizes_length (k : Nat) : (sizesL k).length = k * 3 := by
  have h := congrArg List.length (sizes_reps k)
  rw [ints_length, reps_length rfl] at h
  exact h
theorem unrow_trip (ss : List Int) (b : List UInt8) : unrow (4 :: 4 :: 1 :: ss) b = if b.length < 9 then .error 4 else behind (trip b) (unrow ss (b.drop 9)) := by
  have h4 : (4 : Int) = 1 ∨ (4 : Int) = 2 ∨ (4 : Int) = 4 := .inr (.inr rfl)
  rw [unrow_step 4 4 _ _ h4 rfl, unrow_step 4 4 _ _ h4 rfl, unrow_step 1 1 _ _ (.inl rfl) rfl]
  simp only [List.drop_drop, List.length_drop, Nat.reduceAdd]
  by_cases h : b.length < 9
  · rw [if_pos h]
    by_cases g1 : b.length < 4
    · rw [if_pos g1]
    · rw [if_neg g1]
      by_cases g2 : b.length - 4 < 4
      · rw [if_pos g2]; rfl
      · rw [if_neg g2, if_pos (by omega)]; rfl
  · rw [if_neg h, if_neg (by omega), if_neg (by omega), if_neg (by omega), behind_two, behind_two]
    rfl
def numL (b : List UInt8) (k : Nat) : List Int := (List.range k).flatMap fun j => trip (b.drop (j * 9))
theorem numL_next (b : List UInt8) (k : Nat) : numL b (k + 1) = trip b ++ numL (b.drop 9) k := by
  unfold numL
  rw [List.range_succ_eq_map, List.flatMap_cons, List.flatMap_map]
  simp only [Nat.zero_mul, List.drop_zero, List.drop_drop]
  congr 1
  refine congrArg (fun f => List.flatMap f (List.range k)) (funext fun j => ?_)
  show trip (b.drop ((j + 1) * 9)) = _
  rw [show (j + 1) * 9 = 9 + j * 9 by omega]
theorem unrow_all : ∀ (k : Nat) (b : List UInt8), unrow (sizesL k) b = if b.length < k * 9 then .error 4 else .ok (numL b k, b.drop (k * 9))
  | 0, b => by simp [sizesL, unrow, numL]
  | k + 1, b => by
    rw [show sizesL (k + 1) = 4 :: 4 :: 1 :: sizesL k by unfold sizesL; rw [List.replicate_succ, List.flatten_cons]; rfl, unrow_trip, unrow_all k]
    by_cases h : b.length < 9
    · rw [if_pos h, if_pos (by omega)]
    · rw [if_neg h]
      by_cases h2 : b.length < (k + 1) * 9
      · rw [if_pos h2, if_pos (by rw [List.length_drop]; omega), behind_err]
      · rw [if_neg h2, if_neg (by rw [List.length_drop]; omega), behind_ok, ← numL_next, List.drop_drop, show (k + 1) * 9 = 9 + k * 9 by omega]
theorem numL_length (b : List UInt8) (k : Nat) : (numL b k).length = k * 3 := by
  unfold numL
  rw [List.length_flatMap, show (fun j => (trip (b.drop (j * 9))).length) = fun _ => 3 from rfl, List.map_const', List.sum_replicate_nat, List.length_range]
theorem numL_at (b : List UInt8) (k x i : Nat) (hx : x < k) (hi : i < 3) : (numL b k)[x * 3 + i]? = (trip (b.drop (x * 9)))[i]? := by
  have h := flat_get (fun j => trip (b.drop (j * 9))) 3 (fun _ => rfl) (List.range k) x i hi
  rw [List.getElem?_range hx] at h
  exact h
theorem unrow_tab (k n : Nat) (A A' : Option Addr) (c c' : Nat) (b : List UInt8) (w : World) (hn : b.length = n) (hk : k ≤ 5) (hc : n ≤ c) (hx : c ≤ maxLen) (hl : n ≤ 1048576) (hA : Sl w w.heap.size A b) (hA' : SlV w w.heap.size A' (reps row41 k)) :
    Calls Tryz.prog 108 #[.slice A n c, .slice A' (k * 3 : Nat) c'] w fun e w' => Unrowed w.heap.size (if n < k * 9 then .error 4 else .ok (numL b k, b.drop (k * 9))) e w' ∧ Below w.heap.size w w' := by
  have h := unrow_any n (k * 3) A A' c c' b (sizesL k) w hn (sizes_length k) (by omega) hc hx (by omega) hA (by rw [sizes_reps]; exact hA')
  rw [unrow_all, hn] at h
  exact h
def PrsNo (e : Ending) : Prop := e = .returned (.tuple #[.agg #[.slice none 0 0], .slice none 0 0, .int .i64 4])
theorem four_new (w : World) (a b c d : Obj) : ((((w.alloc a).alloc b).alloc c).alloc d).heap[w.heap.size]? = some a ∧ ((((w.alloc a).alloc b).alloc c).alloc d).heap[w.heap.size + 1]? = some b ∧
    ((((w.alloc a).alloc b).alloc c).alloc d).heap[w.heap.size + 1 + 1]? = some c ∧ ((((w.alloc a).alloc b).alloc c).alloc d).heap[w.heap.size + 1 + 1 + 1]? = some d := by
  have go : ∀ (W : World) (o : Obj) (k : Nat) (x : Obj), W.heap[k]? = some x → (W.alloc o).heap[k]? = some x := fun W o k x h => ((bl W o).block k (Array.getElem?_eq_some_iff.1 h).1).trans h
  have h0 := heap_alloc_new w a
  have h1 := heap_alloc_new (w.alloc a) b
  have h2 := heap_alloc_new ((w.alloc a).alloc b) c
  have h3 := heap_alloc_new (((w.alloc a).alloc b).alloc c) d
  simp only [World.size_alloc] at h1 h2 h3
  exact ⟨go _ _ _ _ (go _ _ _ _ (go _ _ _ _ h0)), go _ _ _ _ (go _ _ _ _ h1), go _ _ _ _ h2, h3⟩
theorem boxed_below {W W' : World} {b : Nat} {t : TypeId} {v : Value} (h : Boxed W b t v) (hb : Below W.heap.size W W') : Boxed W' b t v := (hb.block b h.lt).trans h
theorem g5_of {W : World} {g : Nat} {z d s l a : Int} (h : W.heap[g]? = some (.cells #[.int .i64 z, .int .i64 d, .int .i64 s, .int .i64 l, .int .i64 a] 23)) : G5 W g z d s l a := by
  constructor <;> (rw [cell_of_row _ _ _ _ _ _ h]; rfl)
theorem tparse_short (z s l a : Int) (D : Nat) (A : Option Addr) (n c : Nat) (b : List UInt8) (w : World) (h1 : 1 ≤ D) (h2 : D ≤ 4) (hn : b.length = n) (hc : n ≤ c) (hx : c ≤ maxLen) (hl : n ≤ 1048576) (hA : Sl w w.heap.size A b) (hs : n < (D + 1) * 9) :
    CallsIn Fence.wide 9 Tryz.prog 132 #[.agg #[.int .i64 z, .int .i64 D, .int .i64 s, .int .i64 l, .int .i64 a], .slice A n c] w fun e w' => PrsNo e ∧ Below w.heap.size w w' := by
  have hro : Fence.wide.round = none := rfl
  have hfn : ∀ k, Fence.wide.fn k := fun _ => trivial
  have cT := fun W => tableSizes_at z s l a D W h1 h2
  obtain ⟨a0, a1, a2, a3⟩ := @four_new w (.cells #[.int .i64 z, .int .i64 D, .int .i64 s, .int .i64 l, .int .i64 a] 23) (.cells #[.slice none 0 0] 91) (.cells #[.slice none 0 0] 49) (.cells #[.int .i64 0] 33)
  have hB0 := kal (kal (kal (bl w (.cells #[.int .i64 z, .int .i64 D, .int .i64 s, .int .i64 l, .int .i64 a] 23)) (.cells #[.slice none 0 0] 91)) (.cells #[.slice none 0 0] 49)) (.cells #[.int .i64 0] 33)
  have hsz : ((((w.alloc (.cells #[.int .i64 z, .int .i64 D, .int .i64 s, .int .i64 l, .int .i64 a] 23)).alloc (.cells #[.slice none 0 0] 91)).alloc (.cells #[.slice none 0 0] 49)).alloc (.cells #[.int .i64 0] 33)).heap.size = w.heap.size + 4 := by simp
  have HU := Lib.hid (show ∀ (W : World) (A' : Option Addr) (c' : Nat), Below w.heap.size w W → SlV W W.heap.size A' (reps row41 (D + 1)) → Calls Tryz.prog 108 #[.slice A n c, .slice A' ((D + 1) * 3 : Nat) c'] W fun e w' => e = .returned (.tuple #[.slice none 0 0, .slice none 0 0, .int .i64 4]) ∧ Below W.heap.size W w' from fun W A' c' hW hA' => by
    have h9 := unrow_tab (D + 1) n A A' c c' b W hn (by omega) hc hx hl (hA.next hW) hA'
    rw [if_pos hs] at h9
    exact h9)
  clear hA hs hn
  refine callsIn_of_wp_marks Tryz.func132 rfl (hfn _) ?_ hro
  simp only [Tryz.ntmps132, List.size_toArray, List.length_cons, List.length_nil, Nat.reduceAdd, Nat.reduceSub, Array.replicate_succ, Array.replicate_zero, List.push_toArray, List.append_toArray, List.nil_append, List.cons_append]
  refine wpIn_wide.2 ?_
  go_upto_region 1 with fail
  generalize ((((w.alloc (.cells #[.int .i64 z, .int .i64 D, .int .i64 s, .int .i64 l, .int .i64 a] 23)).alloc (.cells #[.slice none 0 0] 91)).alloc (.cells #[.slice none 0 0] 49)).alloc (.cells #[.int .i64 0] 33)) = w0 at *
  have bT : Boxed w0 (w.heap.size + 1) 91 (.slice none 0 0) := a1
  have bR : Boxed w0 (w.heap.size + 1 + 1) 49 (.slice none 0 0) := a2
  have bE : Boxed w0 (w.heap.size + 1 + 1 + 1) 33 (.int .i64 0) := a3
  obtain ⟨g0, g1, g2, g3, g4⟩ := g5_of a0
  have HBT := Lib.hid bT
  have HBR := Lib.hid bR
  have HBE := Lib.hid bE
  clear a0 a1 a2 a3 bT bR bE
  go_wp2_with (first
    | (go_at_call 134; (with_reducible refine (cT _).mono ?_); rintro e w2 ⟨⟨A3, c3, rfl, o3⟩, hb2⟩; have sl3 := owns_sl o3)
    | (go_at_call 108; (with_reducible refine (HU.out _ _ _ (bt hB0 hb2) sl3).mono ?_); rintro e w3 ⟨rfl, hb3⟩; have hb23 := bt hb2 hb3; have bT := boxed_below HBT.out hb23; have bR := boxed_below HBR.out hb23; have bE := boxed_below HBE.out hb23; have t0 := bT.cell; have t1 := bT.frozen; have r0 := bR.cell; have r1 := bR.frozen; have e0 := bE.cell; have e1 := bE.frozen))
  have n1 : w.heap.size + 1 + 1 ≠ w.heap.size + 1 := by omega
  have n2 : w.heap.size + 1 + 1 + 1 ≠ w.heap.size + 1 := by omega
  have n3 : w.heap.size + 1 + 1 + 1 ≠ w.heap.size + 1 + 1 := by omega
  have bT5 := ((((bT.other n1.symm (.slice none 0 0)).other n2.symm (.int .i64 4)).set (.slice none 0 0)).other n1.symm (.slice none 0 0)).other n2.symm (.int .i64 4)
  have bR5 := ((((bR.set (.slice none 0 0)).other n3.symm (.int .i64 4)).other n1 (.slice none 0 0)).set (.slice none 0 0)).other n3.symm (.int .i64 4)
  have bE5 := ((((bE.other n3 (.slice none 0 0)).set (.int .i64 4)).other n2 (.slice none 0 0)).other n3 (.slice none 0 0)).set (.int .i64 4)
  have hb5 := (((((bt hB0 hb23).setCell (p := ⟨w.heap.size + 1 + 1, 0, none⟩) (show w.heap.size ≤ w.heap.size + 1 + 1 by omega) (.slice none 0 0)).setCell (p := ⟨w.heap.size + 1 + 1 + 1, 0, none⟩) (show w.heap.size ≤ w.heap.size + 1 + 1 + 1 by omega) (.int .i64 4)).setCell (p := ⟨w.heap.size + 1, 0, none⟩) (show w.heap.size ≤ w.heap.size + 1 by omega) (.slice none 0 0)).setCell (p := ⟨w.heap.size + 1 + 1, 0, none⟩) (show w.heap.size ≤ w.heap.size + 1 + 1 by omega) (.slice none 0 0)).setCell (p := ⟨w.heap.size + 1 + 1 + 1, 0, none⟩) (show w.heap.size ≤ w.heap.size + 1 + 1 + 1 by omega) (.int .i64 4)
  refine ⟨.tuple #[.agg #[.slice none 0 0], .slice none 0 0, .int .i64 4], ?_, rfl, hb5⟩
  have q0 := bT5.cell
  have q1 := bR5.cell
  have q2 := bE5.cell
  simp [results, Tryz.f132, go_sem, q0, q1, q2]
end Go.Proofs.YtbfdpibjicjagaaGreatDoor.tbl
namespace Go.Proofs.YtbfdpibjicjagaaGreatDoor.tbl
open Go.RowKit Go.Shelf Go.Lib
open Go.Proofs.YtbfdpibjicjagaaGreatDoor.anc (bl kal kst ks bm ka)
attribute [local go_sem] Oper.semAt_some
section
variable {P : Program} {ops : Array Oper} {Q : Exit → Act → World → Prop} {md : Region.Mode} {l n : Nat}
def noDefer (ops : Array Oper) : Bool := ops.all fun o => match o.op with | .defer _ => false | _ => true
theorem noDefer_at (h : noDefer ops = true) {i : Nat} {o : Oper} (hi : ops[i]? = some o) : ∀ c, o.op ≠ .defer c := by
  intro c hc
  obtain ⟨hlt, rfl⟩ := Array.getElem?_eq_some_iff.1 hi
  have := Array.all_eq_true.1 h i hlt
  rw [hc] at this
  cases this
theorem rows_in {row : String} {args : Array Value} {w : World} {R : Value → World → Prop} (h : Rows P row args w R) : RowsIn (Fence.wide.inRound l) n P row args w R :=
  fun c cs _ => let ⟨v, w', r, s⟩ := h c cs; ⟨v, w', r, stepsIn_wide.2 s⟩
theorem op_in (hd : noDefer ops = true) (hQ : ¬ LetsOut Q) {i : Nat} {K : Act → World → Prop} {a : Act} {w : World} (h : wpOp P ops Q i K a w) : wpOpIn (Fence.wide.inRound l) n P ops Q i K a w := by
  unfold wpOp at h
  unfold wpOpIn
  cases ho : ops[i]? with
  | none =>
    simp only [ho] at h ⊢
    exact h
  | some o =>
    simp only [ho] at h ⊢
    split
    · rename_i hw
      simp only [hw, if_true] at h
      have h := h.resolve_right fun k => hQ k.2
      refine ⟨fun f _ => trivial, ?_⟩
      rw [Oper.semAt_plain (Fence.wide.inRound l) a.eval o (noDefer_at hd ho)]
      unfold Oper.wp at h
      generalize (execOp a.eval o).run P w = r at h ⊢
      cases r with
      | ok x w' =>
        cases x with
        | value v => exact h
        | skip => exact h
        | defer d => exact h
        | enter f args => exact ⟨(fun k => by cases k), (CallsIn.inRound l (callsIn_wide.2 h)).mono (fun e w2 he => by cases e <;> exact he)⟩
        | row r args => exact ⟨(fun k => by cases k), rows_in h⟩
        | _ => exact False.elim h
      | halt x w' => cases x <;> exact h
    · rename_i hw
      simp only [hw] at h
      exact ⟨fun f _ => trivial, h⟩
theorem any_in (hd : noDefer ops = true) (hQ : ¬ LetsOut Q) : ∀ (fuel : Nat) (listed : Array Bool) (a : Act) (w : World), wpAny P md ops Q fuel listed a w → wpAnyIn (Fence.wide.inRound l) n P md ops Q fuel listed a w
  | 0, _, _, _, h => h
  | fuel + 1, _, _, _, h => ⟨h.1, fun i hi => op_in hd hQ (wpOp_mono (fun a' w' h' => any_in hd hQ fuel _ a' w' h') (h.2 i hi))⟩
theorem region_in {id : Nat} {a : Act} {w : World} {S : World → Prop} {K : Act → World → Prop} {Q' : Exit → Act → World → Prop} (hm : P.follows .mixedOrders = true) (hd : noDefer ops = true) (hS : S w.drew)
    (h : S w.drew → wpAnyH P .any ops (Exit.then K fun _ _ _ => False) S ops.size (Array.replicate ops.size false) a w.drew) : (Code.region id ops true).wpIn (Fence.wide.inRound l) n P (Exit.then K Q') a w := by
  have hQ : ¬ LetsOut (Exit.then K fun _ _ _ => False) := fun ⟨_, _, k⟩ => k
  refine wpIn_mono (wpIn_region_any hm (any_in hd hQ _ _ _ _ (wpAny_of_held _ _ _ _ (h hS)))) fun e a' w' hq => ?_
  cases e <;> first | exact hq | exact hq.elim
end
theorem reg6_in (l m nb o : Nat) (st sm th : Int) (ls : Bool) (t0 t1 t2 t3 t4 t5 t6 t7 t10 t11 t12 t13 t14 t15 t16 t17 t18 t19 t20 t21 t22 t23 t24 t25 u9 u26 u27 u28 u29 u30 u31 u32 u33 u34 u35 u36 u37 u38 u39 u40 u41 u42 u43 u44 u45 u46 u47 u48 u49 u50 u51 u52 : Value) (W : World) (K : Act → World → Prop) (Q' : Exit → Act → World → Prop)
    (c0 : W.cell? ⟨nb, o, none⟩ = some (.int .i64 st)) (c1 : W.cell? ⟨nb, o + 1, none⟩ = some (.int .i64 sm)) (c2 : W.cell? ⟨nb, o + 2, none⟩ = some (.int .i64 th)) (q1 : (th == 1) = ls) (hnb : nb < W.heap.size)
    (hK : ∀ (u26 u27 u28 u29 u30 u31 u32 u33 u34 u35 u36 : Value) (wc : World), wc.heap[W.heap.size]? = some (.cells #[.int .i64 st, .int .i64 sm, .bool ls] 111) → W.grownBy wc none → K { tmps := #[t0, t1, t2, t3, t4, t5, t6, t7, .slice (some ⟨nb, o, none⟩) 3 3, .pointer (some ⟨W.heap.size, 0, none⟩), t10, t11, t12, t13, t14, t15, t16, t17, t18, t19, t20, t21, t22, t23, t24, t25, u26, u27, u28, u29, u30, u31, u32, u33, u34, u35, u36, u37, u38, u39, u40, u41, u42, u43, u44, u45, u46, u47, u48, u49, u50, u51, u52], defers := [] } wc) :
    Code.wpIn (Fence.wide.inRound l) m Tryz.prog (Code.region 6 #[{ dst := some 26, op := Op.move (Operand.tmp 8), type := 43, pos := "table.go:117", after := #[], guard := none }, { dst := some 27, op := Op.indexAddr 43 (Operand.tmp 26) (Operand.const (Value.int IntKind.i64 0)), type := 0, pos := "table.go:117", after := #[{ on := 0, ground := Ground.data }], guard := none }, { dst := some 28, op := Op.load 3 (Operand.tmp 27), type := 3, pos := "table.go:117", after := #[{ on := 1, ground := Ground.data }], guard := none }, { dst := some 29, op := Op.move (Operand.tmp 8), type := 43, pos := "table.go:117", after := #[], guard := none }, { dst := some 30, op := Op.indexAddr 43 (Operand.tmp 29) (Operand.const (Value.int IntKind.i64 1)), type := 0, pos := "table.go:117", after := #[{ on := 3, ground := Ground.data }], guard := none }, { dst := some 31, op := Op.load 3 (Operand.tmp 30), type := 3, pos := "table.go:117", after := #[{ on := 4, ground := Ground.data }], guard := none }, { dst := some 32, op := Op.move (Operand.tmp 8), type := 43, pos := "table.go:117", after := #[], guard := none }, { dst := some 33, op := Op.indexAddr 43 (Operand.tmp 32) (Operand.const (Value.int IntKind.i64 2)), type := 0, pos := "table.go:117", after := #[{ on := 6, ground := Ground.data }], guard := none }, { dst := some 34, op := Op.load 3 (Operand.tmp 33), type := 3, pos := "table.go:117", after := #[{ on := 7, ground := Ground.data }], guard := none }, { dst := some 35, op := Op.binOp BinOp.eql 3 (Operand.tmp 34) (Operand.const (Value.int IntKind.i64 1)) 3, type := 4, pos := "table.go:117", after := #[{ on := 8, ground := Ground.data }], guard := none }, { dst := some 36, op := Op.build 111 #[(0, Operand.tmp 28), (1, Operand.tmp 31), (2, Operand.tmp 35)], type := 111, pos := "table.go:117", after := #[{ on := 2, ground := Ground.data }, { on := 5, ground := Ground.data }, { on := 9, ground := Ground.data }], guard := none }, { dst := some 9, op := Op.alloc 111, type := 0, pos := "table.go:117", after := #[], guard := none }, { dst := none, op := Op.store 111 (Operand.tmp 9) (Operand.tmp 36), type := 0, pos := "table.go:117", after := #[{ on := 11, ground := Ground.data }, { on := 10, ground := Ground.data }, { on := 0, ground := Ground.phase }, { on := 1, ground := Ground.phase }, { on := 2, ground := Ground.phase }, { on := 3, ground := Ground.phase }, { on := 4, ground := Ground.phase }, { on := 5, ground := Ground.phase }, { on := 6, ground := Ground.phase }, { on := 7, ground := Ground.phase }, { on := 8, ground := Ground.phase }, { on := 9, ground := Ground.phase }, { on := 10, ground := Ground.phase }, { on := 11, ground := Ground.phase }], guard := none }] true) (Exit.then K Q') { tmps := #[t0, t1, t2, t3, t4, t5, t6, t7, .slice (some ⟨nb, o, none⟩) 3 3, u9, t10, t11, t12, t13, t14, t15, t16, t17, t18, t19, t20, t21, t22, t23, t24, t25, u26, u27, u28, u29, u30, u31, u32, u33, u34, u35, u36, u37, u38, u39, u40, u41, u42, u43, u44, u45, u46, u47, u48, u49, u50, u51, u52], defers := [] } W := by
  have hmix : Tryz.prog.follows .mixedOrders = true := by kernel_rfl
  have HK := Lib.hid hK
  clear hK
  have HF := Lib.hid (show ∀ X, Below W.heap.size W X → X.cell? ⟨nb, o, none⟩ = some (.int .i64 st) ∧ X.cell? ⟨nb, o + 1, none⟩ = some (.int .i64 sm) ∧ X.cell? ⟨nb, o + 2, none⟩ = some (.int .i64 th) ∧ Below W.heap.size W X from fun X h => ⟨kst h hnb c0, kst h hnb c1, kst h hnb c2, h⟩)
  dsimp only
  refine region_in (S := fun X => X.cell? ⟨nb, o, none⟩ = some (.int .i64 st) ∧ X.cell? ⟨nb, o + 1, none⟩ = some (.int .i64 sm) ∧ X.cell? ⟨nb, o + 2, none⟩ = some (.int .i64 th) ∧ Below W.heap.size W X) hmix (by kernel_rfl) (HF.out _ (below_dr (Below.refl _ _))) (fun hHeld => ?_)
  (refine wpAnyH_take (i := 0) (v := ?_) rfl (by kernel_rfl) (by kernel_rfl) (by kernel_rfl) (fun _ _ _ h => h) (Or.inl ⟨by rfl, ?_⟩) (by assumption) ?_; rotate_left; (focus (intro w hSw; (try dsimp only at hSw); go_split_ands; go_simp <;> with_reducible rfl)); simp only [List.getElem_toArray, List.getElem_cons_zero, Act.put, List.setIfInBounds_toArray, List.set_cons_zero, List.set_cons_succ])
  (refine wpAnyH_take (i := 1) (v := ?_) rfl (by kernel_rfl) (by kernel_rfl) (by kernel_rfl) (fun _ _ _ h => h) (Or.inl ⟨by rfl, ?_⟩) (by assumption) ?_; rotate_left; (focus (intro w hSw; (try dsimp only at hSw); go_split_ands; go_simp <;> with_reducible rfl)); simp only [List.getElem_toArray, List.getElem_cons_zero, List.getElem_cons_succ, Act.put, List.setIfInBounds_toArray, List.set_cons_zero, List.set_cons_succ])
  (refine wpAnyH_take (i := 2) (v := ?_) rfl (by kernel_rfl) (by kernel_rfl) (by kernel_rfl) (fun _ _ _ h => h) (Or.inl ⟨by rfl, ?_⟩) (by assumption) ?_; rotate_left; (focus (intro w hSw; (try dsimp only at hSw); go_split_ands; go_simp <;> with_reducible rfl)); simp only [List.getElem_toArray, List.getElem_cons_zero, List.getElem_cons_succ, Act.put, List.setIfInBounds_toArray, List.set_cons_zero, List.set_cons_succ])
  (refine wpAnyH_take (i := 3) (v := ?_) rfl (by kernel_rfl) (by kernel_rfl) (by kernel_rfl) (fun _ _ _ h => h) (Or.inl ⟨by rfl, ?_⟩) (by assumption) ?_; rotate_left; (focus (intro w hSw; (try dsimp only at hSw); go_split_ands; go_simp <;> with_reducible rfl)); simp only [List.getElem_toArray, List.getElem_cons_zero, List.getElem_cons_succ, Act.put, List.setIfInBounds_toArray, List.set_cons_zero, List.set_cons_succ])
  (refine wpAnyH_take (i := 4) (v := ?_) rfl (by kernel_rfl) (by kernel_rfl) (by kernel_rfl) (fun _ _ _ h => h) (Or.inl ⟨by rfl, ?_⟩) (by assumption) ?_; rotate_left; (focus (intro w hSw; (try dsimp only at hSw); go_split_ands; go_simp <;> with_reducible rfl)); simp only [List.getElem_toArray, List.getElem_cons_zero, List.getElem_cons_succ, Act.put, List.setIfInBounds_toArray, List.set_cons_zero, List.set_cons_succ])
  (refine wpAnyH_take (i := 5) (v := ?_) rfl (by kernel_rfl) (by kernel_rfl) (by kernel_rfl) (fun _ _ _ h => h) (Or.inl ⟨by rfl, ?_⟩) (by assumption) ?_; rotate_left; (focus (intro w hSw; (try dsimp only at hSw); go_split_ands; go_simp <;> with_reducible rfl)); simp only [List.getElem_toArray, List.getElem_cons_zero, List.getElem_cons_succ, Act.put, List.setIfInBounds_toArray, List.set_cons_zero, List.set_cons_succ])
  (refine wpAnyH_take (i := 6) (v := ?_) rfl (by kernel_rfl) (by kernel_rfl) (by kernel_rfl) (fun _ _ _ h => h) (Or.inl ⟨by rfl, ?_⟩) (by assumption) ?_; rotate_left; (focus (intro w hSw; (try dsimp only at hSw); go_split_ands; go_simp <;> with_reducible rfl)); simp only [List.getElem_toArray, List.getElem_cons_zero, List.getElem_cons_succ, Act.put, List.setIfInBounds_toArray, List.set_cons_zero, List.set_cons_succ])
  (refine wpAnyH_take (i := 7) (v := ?_) rfl (by kernel_rfl) (by kernel_rfl) (by kernel_rfl) (fun _ _ _ h => h) (Or.inl ⟨by rfl, ?_⟩) (by assumption) ?_; rotate_left; (focus (intro w hSw; (try dsimp only at hSw); go_split_ands; go_simp <;> with_reducible rfl)); simp only [List.getElem_toArray, List.getElem_cons_zero, List.getElem_cons_succ, Act.put, List.setIfInBounds_toArray, List.set_cons_zero, List.set_cons_succ])
  (refine wpAnyH_take (i := 8) (v := ?_) rfl (by kernel_rfl) (by kernel_rfl) (by kernel_rfl) (fun _ _ _ h => h) (Or.inl ⟨by rfl, ?_⟩) (by assumption) ?_; rotate_left; (focus (intro w hSw; (try dsimp only at hSw); go_split_ands; go_simp <;> with_reducible rfl)); simp only [List.getElem_toArray, List.getElem_cons_zero, List.getElem_cons_succ, Act.put, List.setIfInBounds_toArray, List.set_cons_zero, List.set_cons_succ])
  (refine wpAnyH_take (i := 9) (v := ?_) rfl (by kernel_rfl) (by kernel_rfl) (by kernel_rfl) (fun _ _ _ h => h) (Or.inl ⟨by rfl, ?_⟩) (by assumption) ?_; rotate_left; (focus (intro w hSw; (try dsimp only at hSw); go_split_ands; go_simp <;> with_reducible rfl)); simp only [List.getElem_toArray, List.getElem_cons_zero, List.getElem_cons_succ, Act.put, List.setIfInBounds_toArray, List.set_cons_zero, List.set_cons_succ])
  (refine wpAnyH_take (i := 10) (v := ?_) rfl (by kernel_rfl) (by kernel_rfl) (by kernel_rfl) (fun _ _ _ h => h) (Or.inl ⟨by rfl, ?_⟩) (by assumption) ?_; rotate_left; (focus (intro w hSw; (try dsimp only at hSw); go_split_ands; go_simp <;> with_reducible rfl)); simp only [List.getElem_toArray, List.getElem_cons_zero, List.getElem_cons_succ, Act.put, List.setIfInBounds_toArray, List.set_cons_zero, List.set_cons_succ])
  refine wpAnyH_ready (rs := [11]) (by kernel_rfl) (by simp) ?_
  refine AllReadyH.cons rfl (fun K9 hK9 => ?_) AllReadyH.nil
  go_simp
  refine hK9.out _ _ (HF.out _ (by first | exact below_dr (bl W _) | exact kal (below_dr (Below.refl _ _)) _)) (fun hS2 => ?_)
  clear hK9 K9
  try simp only [Act.put, List.setIfInBounds_toArray, List.set_cons_zero, List.set_cons_succ]
  refine wpAnyH_ready (rs := [12]) (by kernel_rfl) (by simp) ?_
  refine AllReadyH.cons rfl (fun K9 hK9 => ?_) AllReadyH.nil
  go_simp
  refine hK9.out _ _ (HF.out _ (below_dr (bl W _))) (fun hS3 => ?_)
  clear hK9 K9
  refine wpAnyH_done (by kernel_rfl) ?_ _
  have g := World.grownBy_alloc W (.cells #[.int .i64 st, .int .i64 sm, .bool ls] 111) none
  exact HK.out _ _ _ _ _ _ _ _ _ _ _ _ (heap_alloc_new W _) ⟨g.os, g.tape, g.output, g.size, g.block⟩
theorem reg7_in (l m nb o gE : Nat) (hm : 1 ≤ m) (th fl : Int) (ls bad : Bool) (t0 t1 t2 t3 t4 t5 t6 t7 t10 t11 t12 t13 t14 t15 t16 t17 t18 t19 t20 t21 t22 t23 t24 t25 u26 u27 u28 u29 u30 u31 u32 u33 u34 u35 u36 u37 u38 u39 u40 u41 u42 u43 u44 u45 u46 u47 u48 u49 u50 u51 u52 : Value) (W : World) (K : Act → World → Prop) (Q' : Exit → Act → World → Prop)
    (c2 : W.cell? ⟨nb, o + 2, none⟩ = some (.int .i64 th)) (e2 : W.cell? ⟨gE, 2, none⟩ = some (.bool ls)) (q2 : (fl != th) = bad) (cF : ∀ W, Calls Tryz.prog 137 #[.bool ls] W fun e w' => e = .returned (.int .i64 fl) ∧ W = w')
    (hK : ∀ (u37 u38 u39 u40 u41 u42 : Value) (wc : World), W.grownBy wc none → K { tmps := #[t0, t1, t2, t3, t4, t5, t6, t7, .slice (some ⟨nb, o, none⟩) 3 3, .pointer (some ⟨gE, 0, none⟩), t10, t11, t12, t13, t14, t15, t16, t17, t18, t19, t20, t21, t22, t23, t24, t25, u26, u27, u28, u29, u30, u31, u32, u33, u34, u35, u36, u37, u38, u39, u40, u41, u42, .bool bad, u44, u45, u46, u47, u48, u49, u50, u51, u52], defers := [] } wc) :
    Code.wpIn (Fence.wide.inRound l) m Tryz.prog (Code.region 7 #[{ dst := some 37, op := Op.fieldAddr 111 (Operand.tmp 9) 2, type := 0, pos := "table.go:118", after := #[], guard := none }, { dst := some 38, op := Op.load 4 (Operand.tmp 37), type := 4, pos := "table.go:118", after := #[{ on := 0, ground := Ground.data }], guard := none }, { dst := some 39, op := Op.call { callee := Callee.value (Operand.func 137), args := #[Operand.tmp 38], argTypes := #[4] }, type := 3, pos := "table.go:118", after := #[{ on := 1, ground := Ground.data }], guard := none }, { dst := some 40, op := Op.move (Operand.tmp 8), type := 43, pos := "table.go:118", after := #[], guard := none }, { dst := some 41, op := Op.indexAddr 43 (Operand.tmp 40) (Operand.const (Value.int IntKind.i64 2)), type := 0, pos := "table.go:118", after := #[{ on := 3, ground := Ground.data }], guard := none }, { dst := some 42, op := Op.load 3 (Operand.tmp 41), type := 3, pos := "table.go:118", after := #[{ on := 4, ground := Ground.data }], guard := none }, { dst := some 43, op := Op.binOp BinOp.neq 3 (Operand.tmp 39) (Operand.tmp 42) 3, type := 4, pos := "table.go:118", after := #[{ on := 2, ground := Ground.data }, { on := 5, ground := Ground.data }], guard := none }] true) (Exit.then K Q') { tmps := #[t0, t1, t2, t3, t4, t5, t6, t7, .slice (some ⟨nb, o, none⟩) 3 3, .pointer (some ⟨gE, 0, none⟩), t10, t11, t12, t13, t14, t15, t16, t17, t18, t19, t20, t21, t22, t23, t24, t25, u26, u27, u28, u29, u30, u31, u32, u33, u34, u35, u36, u37, u38, u39, u40, u41, u42, u43, u44, u45, u46, u47, u48, u49, u50, u51, u52], defers := [] } W := by
  have hfn : ∀ k, Fence.wide.fn k := fun _ => trivial
  have hro : Fence.wide.round = none := rfl
  have hmix : Tryz.prog.follows .mixedOrders = true := by kernel_rfl
  have HK := Lib.hid hK
  clear hK
  dsimp only
  gi_region_with_o (gi_at_call 137; refine (CallsIn.inRound l (callsIn_wide.2 (cF _))).mono ?_; rintro e w' ⟨rfl, rfl⟩)
  all_goals exact HK.out _ _ _ _ _ _ _ ⟨rfl, rfl, rfl, Nat.le_refl _, fun _ _ _ => rfl⟩
end Go.Proofs.YtbfdpibjicjagaaGreatDoor.tbl
