/-
  The small functions of package table, and Check. Conditions: rows shorter than 2^20.
-/
import Derived.Test.YtajjmllolaajoaaTbP
import Derived.Deep.RegionHeld3
namespace Go.Proofs.Ytajjmllolaajoaa.tbl
open Go.RowKit Go.Lib
open Go.Proofs.Ytajjmllolaajoaa.gmt (Ok five_new check_ok check_no)
open Go.Proofs.Ytajjmllolaajoaa.anc (flat_get flat_len slv_cell bl kal kst ks bm ka row_form row_below)

set_option maxRecDepth 100000 in
theorem isNum_at (c : Bool) (n : Int) (w : World) (hc : c = true ↔ 0 ≤ n ∧ n ≤ 4294967295) :
    Calls Try.prog 46 #[.int .i64 n] w fun e w' => e = .returned (.bool c) ∧ w = w' := by
  by_cases h1 : 0 ≤ n
  · by_cases h2 : n ≤ 4294967295
    · obtain rfl : c = true := hc.2 ⟨h1, h2⟩
      clear hc
      go_enter Try.func46, Try.ntmps46
      go_wp2
      go_ret
      exact ⟨rfl, rfl⟩
    · obtain rfl : c = false := by
        cases c with
        | false => rfl
        | true => exact absurd (hc.1 rfl).2 h2
      clear hc
      go_enter Try.func46, Try.ntmps46
      go_wp2
      go_ret
      exact ⟨rfl, rfl⟩
  · obtain rfl : c = false := by
      cases c with
      | false => rfl
      | true => exact absurd (hc.1 rfl).1 h1
    clear hc
    go_enter Try.func46, Try.ntmps46
    go_wp2
    go_ret
    exact ⟨rfl, rfl⟩
set_option maxRecDepth 100000 in
theorem entryCount_at (z s l a : Int) (D : Nat) (w : World) (hD : D ≤ 4) :
    Calls Try.prog 44 #[.agg #[.int .i64 z, .int .i64 D, .int .i64 s, .int .i64 l, .int .i64 a]] w fun e w' => e = .returned (.int .i64 (((D : Nat) : Int) + 1)) ∧ Below w.heap.size w w' := by
  obtain ⟨-, g1, -⟩ := five_new w z D s l a
  have B0 := bl w (.cells #[.int .i64 z, .int .i64 D, .int .i64 s, .int .i64 l, .int .i64 a] 23)
  go_enter Try.func44, Try.ntmps44
  go_wp2
  go_ret
  exact ⟨rfl, B0⟩
set_option maxRecDepth 100000 in
theorem parityIndex_at (z s l a : Int) (D : Nat) (w : World) :
    Calls Try.prog 45 #[.agg #[.int .i64 z, .int .i64 D, .int .i64 s, .int .i64 l, .int .i64 a]] w fun e w' => e = .returned (.int .i64 (((D : Nat) : Int))) ∧ Below w.heap.size w w' := by
  obtain ⟨-, g1, -⟩ := five_new w z D s l a
  have B0 := bl w (.cells #[.int .i64 z, .int .i64 D, .int .i64 s, .int .i64 l, .int .i64 a] 23)
  go_enter Try.func45, Try.ntmps45
  go_wp2
  go_ret
  exact ⟨rfl, B0⟩
set_option maxRecDepth 100000 in
set_option maxHeartbeats 4000000 in
theorem tcheck_no (z d s l a : Int) (x : TV) (w : World) (ho : ¬ Ok z d s l a) :
    Calls Try.prog 37 #[.agg #[.int .i64 z, .int .i64 d, .int .i64 s, .int .i64 l, .int .i64 a], x.v] w fun e w' => e = .returned (.int .i64 1) ∧ Below w.heap.size w w' := by
  have cC := fun W => check_no z d s l a W ho
  unfold TV.v
  have s1 : (w.alloc (.cells #[.int .i64 z, .int .i64 d, .int .i64 s, .int .i64 l, .int .i64 a] 23)).heap.size = w.heap.size + 1 := by simp
  have hx2 := bl (w.alloc (.cells #[.int .i64 z, .int .i64 d, .int .i64 s, .int .i64 l, .int .i64 a] 23)) (.cells #[.slice x.A x.es.length x.c] 26)
  have GG := (g5_new w z d s l a).keep hx2 (by omega)
  have T1 := c1_new (w.alloc (.cells #[.int .i64 z, .int .i64 d, .int .i64 s, .int .i64 l, .int .i64 a] 23)) (.slice x.A x.es.length x.c) 26
  rw [s1] at T1
  have hb0 := kal (bl w (.cells #[.int .i64 z, .int .i64 d, .int .i64 s, .int .i64 l, .int .i64 a] 23)) (.cells #[.slice x.A x.es.length x.c] 26)
  have l1 : w.heap.size + 1 < ((w.alloc (.cells #[.int .i64 z, .int .i64 d, .int .i64 s, .int .i64 l, .int .i64 a] 23)).alloc (.cells #[.slice x.A x.es.length x.c] 26)).heap.size := by simp
  clear s1 hx2
  clear ho
  go_enter Try.func37, Try.ntmps37
  go_upto_region 1 with fail
  generalize (w.alloc (.cells #[.int .i64 z, .int .i64 d, .int .i64 s, .int .i64 l, .int .i64 a] 23)).alloc (.cells #[.slice x.A x.es.length x.c] 26) = w0 at *
  obtain ⟨g0, g1, g2, g3, g4⟩ := id GG
  go_wp2_with (go_at_call 43; (with_reducible refine (cC _).mono ?_); rintro e w1 ⟨rfl, hb1⟩)
  go_ret
  exact ⟨rfl, bt hb0 hb1⟩
set_option maxRecDepth 100000 in
set_option maxHeartbeats 4000000 in
theorem tcheck_any (c : Bool) (z s l a : Int) (D : Nat) (x : TV) (w : World) (ho : Ok z D s l a) (hx : x.In w w.heap.size) (hn : x.es.length ≤ 1048576) (hc : c = true ↔ Good D x.es) :
    Calls Try.prog 37 #[.agg #[.int .i64 z, .int .i64 D, .int .i64 s, .int .i64 l, .int .i64 a], x.v] w fun e w' => e = .returned (.int .i64 (if c = true then 0 else 1)) ∧ Below w.heap.size w w' := by
  have cC := fun W => check_ok z D s l a W ho
  have o2 := ho.2.1
  have hD : D ≤ 4 := by omega
  have cE := fun W => entryCount_at z s l a D W hD
  have cP := fun W => parityIndex_at z s l a D W
  have HC := Lib.hid hc
  unfold TV.v
  have s1 : (w.alloc (.cells #[.int .i64 z, .int .i64 D, .int .i64 s, .int .i64 l, .int .i64 a] 23)).heap.size = w.heap.size + 1 := by simp
  have hx2 := bl (w.alloc (.cells #[.int .i64 z, .int .i64 D, .int .i64 s, .int .i64 l, .int .i64 a] 23)) (.cells #[.slice x.A x.es.length x.c] 26)
  have GG := (g5_new w z D s l a).keep hx2 (by omega)
  have T1 := c1_new (w.alloc (.cells #[.int .i64 z, .int .i64 D, .int .i64 s, .int .i64 l, .int .i64 a] 23)) (.slice x.A x.es.length x.c) 26
  rw [s1] at T1
  have hb0 := kal (bl w (.cells #[.int .i64 z, .int .i64 D, .int .i64 s, .int .i64 l, .int .i64 a] 23)) (.cells #[.slice x.A x.es.length x.c] 26)
  have l1 : w.heap.size + 1 < ((w.alloc (.cells #[.int .i64 z, .int .i64 D, .int .i64 s, .int .i64 l, .int .i64 a] 23)).alloc (.cells #[.slice x.A x.es.length x.c] 26)).heap.size := by simp
  clear s1 hx2
  have HX := Lib.hid (hx.next hb0)
  obtain ⟨n, hnn⟩ : ∃ n, n = x.es.length := ⟨_, rfl⟩
  rw [← hnn] at hb0 T1 hn l1 GG
  have HN := Lib.hid hnn
  have HO := Lib.hid ho
  rw [← hnn]
  clear ho hc hx hnn
  go_enter Try.func37, Try.ntmps37
  go_upto_region 1 with fail
  rw [← HN.out] at HX
  generalize (w.alloc (.cells #[.int .i64 z, .int .i64 D, .int .i64 s, .int .i64 l, .int .i64 a] 23)).alloc (.cells #[.slice x.A n x.c] 26) = w0 at *
  obtain ⟨g0, g1, g2, g3, g4⟩ := id GG
  go_upto_region 4 with (go_at_call 43; (with_reducible refine (cC _).mono ?_); rintro e w1 ⟨rfl, hb1⟩)
  replace GG := GG.keep hb1 (by omega)
  replace T1 := T1.keep hb1 l1
  replace HX := Lib.hid (HX.out.next hb1)
  replace hb0 := bt hb0 hb1
  replace l1 := Nat.lt_of_lt_of_le l1 hb1.size
  clear g0 g1 g2 g3 g4 hb1 w0 cC
  have t0 := T1.c0
  obtain ⟨g0, g1, g2, g3, g4⟩ := id GG
  by_cases hl : n = D + 1
  case neg =>
    have n1 : ((n : Int) != (D : Int) + 1) = true := bne_iff_ne.2 (by omega)
    have n2 : ((n : Int) == (D : Int) + 1) = false := beq_eq_false_iff_ne.2 (by omega)
    obtain rfl : c = false := by
      cases c with
      | false => rfl
      | true =>
        have h9 := (HC.out.1 rfl).1
        rw [← HN.out] at h9
        omega
    have HF := Lib.hid (show ∀ W, Below w1.heap.size w1 W → W.cell? ⟨w.heap.size, 0, none⟩ = some (.int .i64 z) ∧ W.cell? ⟨w.heap.size, 1, none⟩ = some (.int .i64 D) ∧ W.cell? ⟨w.heap.size, 2, none⟩ = some (.int .i64 s) ∧ W.cell? ⟨w.heap.size, 3, none⟩ = some (.int .i64 l) ∧ W.cell? ⟨w.heap.size, 4, none⟩ = some (.int .i64 a) ∧ W.cell? ⟨w.heap.size + 1, 0, none⟩ = some (.slice x.A n x.c) ∧ Below w1.heap.size w1 W from fun W h => ⟨kst h (by omega) g0, kst h (by omega) g1, kst h (by omega) g2, kst h (by omega) g3, kst h (by omega) g4, kst h l1 t0, h⟩)
    clear HC hl
    refine wp_region_held_drew (S := fun W => W.cell? ⟨w.heap.size, 0, none⟩ = some (.int .i64 z) ∧ W.cell? ⟨w.heap.size, 1, none⟩ = some (.int .i64 D) ∧ W.cell? ⟨w.heap.size, 2, none⟩ = some (.int .i64 s) ∧ W.cell? ⟨w.heap.size, 3, none⟩ = some (.int .i64 l) ∧ W.cell? ⟨w.heap.size, 4, none⟩ = some (.int .i64 a) ∧ W.cell? ⟨w.heap.size + 1, 0, none⟩ = some (.slice x.A n x.c) ∧ Below w1.heap.size w1 W) (by kernel_rfl) (HF.out _ (below_dr (Below.refl w1.heap.size w1))) (fun hHeld => ?_)
    (refine wpAnyH_take (i := 0) (v := ?_) rfl (by kernel_rfl) (by kernel_rfl) (by kernel_rfl) (fun _ _ _ h => h) (Or.inl ⟨by rfl, ?_⟩) (by assumption) ?_; rotate_left; (focus (intro w hSw; (try dsimp only at hSw); go_split_ands; go_simp <;> with_reducible rfl)); simp only [List.getElem_toArray, List.getElem_cons_zero, Act.put, List.setIfInBounds_toArray, List.set_cons_zero, List.set_cons_succ])
    (refine wpAnyH_take (i := 1) (v := ?_) rfl (by kernel_rfl) (by kernel_rfl) (by kernel_rfl) (fun _ _ _ h => h) (Or.inl ⟨by rfl, ?_⟩) (by assumption) ?_; rotate_left; (focus (intro w hSw; (try dsimp only at hSw); go_split_ands; go_simp <;> with_reducible rfl)); simp only [List.getElem_toArray, List.getElem_cons_zero, List.getElem_cons_succ, Act.put, List.setIfInBounds_toArray, List.set_cons_zero, List.set_cons_succ])
    (refine wpAnyH_take (i := 2) (v := ?_) rfl (by kernel_rfl) (by kernel_rfl) (by kernel_rfl) (fun _ _ _ h => h) (Or.inl ⟨by rfl, ?_⟩) (by assumption) ?_; rotate_left; (focus (intro w hSw; (try dsimp only at hSw); go_split_ands; go_simp <;> with_reducible rfl)); simp only [List.getElem_toArray, List.getElem_cons_zero, List.getElem_cons_succ, Act.put, List.setIfInBounds_toArray, List.set_cons_zero, List.set_cons_succ])
    (refine wpAnyH_take (i := 3) (v := ?_) rfl (by kernel_rfl) (by kernel_rfl) (by kernel_rfl) (fun _ _ _ h => h) (Or.inl ⟨by rfl, ?_⟩) (by assumption) ?_; rotate_left; (focus (intro w hSw; (try dsimp only at hSw); go_split_ands; go_simp <;> with_reducible rfl)); simp only [List.getElem_toArray, List.getElem_cons_zero, List.getElem_cons_succ, Act.put, List.setIfInBounds_toArray, List.set_cons_zero, List.set_cons_succ])
    refine wpAnyH_ready (rs := [4]) (by kernel_rfl) (by simp) ?_
    refine AllReadyH.cons rfl (fun K hK => ?_) AllReadyH.nil
    go_simp
    (with_reducible refine (cE _).mono ?_)
    rintro e w2 ⟨rfl, hb2q⟩
    have hb2 : Below w1.heap.size w1 w2 := bt (below_dr (Below.refl w1.heap.size w1)) hb2q
    refine hK.out _ _ (HF.out _ hb2) (fun hS2 => ?_)
    clear hK K
    try simp only [Act.put, List.setIfInBounds_toArray, List.set_cons_zero, List.set_cons_succ]
    (refine wpAnyH_take (i := 5) (v := ?_) rfl (by kernel_rfl) (by kernel_rfl) (by kernel_rfl) (fun _ _ _ h => h) (Or.inl ⟨by rfl, ?_⟩) (by assumption) ?_; rotate_left; (focus (intro w hSw; (try dsimp only at hSw); go_split_ands; go_simp <;> with_reducible rfl)); simp only [List.getElem_toArray, List.getElem_cons_zero, List.getElem_cons_succ, Act.put, List.setIfInBounds_toArray, List.set_cons_zero, List.set_cons_succ])
    (refine wpAnyH_take (i := 6) (v := ?_) rfl (by kernel_rfl) (by kernel_rfl) (by kernel_rfl) (fun _ _ _ h => h) (Or.inl ⟨by rfl, ?_⟩) (by assumption) ?_; rotate_left; (focus (intro w hSw; (try dsimp only at hSw); go_split_ands; go_simp <;> with_reducible rfl)); simp only [List.getElem_toArray, List.getElem_cons_zero, List.getElem_cons_succ, Act.put, List.setIfInBounds_toArray, List.set_cons_zero, List.set_cons_succ])
    (refine wpAnyH_take (i := 7) (v := undef) rfl (by kernel_rfl) (by kernel_rfl) (by kernel_rfl) (fun _ _ _ h => h) (Or.inr ⟨by rfl, rfl⟩) (by assumption) ?_; simp only [List.getElem_toArray, List.getElem_cons_zero, List.getElem_cons_succ, Act.put, List.setIfInBounds_toArray, List.set_cons_zero, List.set_cons_succ])
    (refine wpAnyH_take (i := 8) (v := undef) rfl (by kernel_rfl) (by kernel_rfl) (by kernel_rfl) (fun _ _ _ h => h) (Or.inr ⟨by rfl, rfl⟩) (by assumption) ?_; simp only [List.getElem_toArray, List.getElem_cons_zero, List.getElem_cons_succ, Act.put, List.setIfInBounds_toArray, List.set_cons_zero, List.set_cons_succ])
    (refine wpAnyH_take (i := 9) (v := undef) rfl (by kernel_rfl) (by kernel_rfl) (by kernel_rfl) (fun _ _ _ h => h) (Or.inr ⟨by rfl, rfl⟩) (by assumption) ?_; simp only [List.getElem_toArray, List.getElem_cons_zero, List.getElem_cons_succ, Act.put, List.setIfInBounds_toArray, List.set_cons_zero, List.set_cons_succ])
    (refine wpAnyH_take (i := 10) (v := undef) rfl (by kernel_rfl) (by kernel_rfl) (by kernel_rfl) (fun _ _ _ h => h) (Or.inr ⟨by rfl, rfl⟩) (by assumption) ?_; simp only [List.getElem_toArray, List.getElem_cons_zero, List.getElem_cons_succ, Act.put, List.setIfInBounds_toArray, List.set_cons_zero, List.set_cons_succ])
    (refine wpAnyH_take (i := 11) (v := undef) rfl (by kernel_rfl) (by kernel_rfl) (by kernel_rfl) (fun _ _ _ h => h) (Or.inr ⟨by rfl, rfl⟩) (by assumption) ?_; simp only [List.getElem_toArray, List.getElem_cons_zero, List.getElem_cons_succ, Act.put, List.setIfInBounds_toArray, List.set_cons_zero, List.set_cons_succ])
    (refine wpAnyH_take (i := 12) (v := undef) rfl (by kernel_rfl) (by kernel_rfl) (by kernel_rfl) (fun _ _ _ h => h) (Or.inr ⟨by rfl, rfl⟩) (by assumption) ?_; simp only [List.getElem_toArray, List.getElem_cons_zero, List.getElem_cons_succ, Act.put, List.setIfInBounds_toArray, List.set_cons_zero, List.set_cons_succ])
    (refine wpAnyH_take (i := 13) (v := undef) rfl (by kernel_rfl) (by kernel_rfl) (by kernel_rfl) (fun _ _ _ h => h) (Or.inr ⟨by rfl, rfl⟩) (by assumption) ?_; simp only [List.getElem_toArray, List.getElem_cons_zero, List.getElem_cons_succ, Act.put, List.setIfInBounds_toArray, List.set_cons_zero, List.set_cons_succ])
    (refine wpAnyH_take (i := 14) (v := ?_) rfl (by kernel_rfl) (by kernel_rfl) (by kernel_rfl) (fun _ _ _ h => h) (Or.inl ⟨by rfl, ?_⟩) (by assumption) ?_; rotate_left; (focus (intro w hSw; (try dsimp only at hSw); go_split_ands; go_simp <;> with_reducible rfl)); simp only [List.getElem_toArray, List.getElem_cons_zero, List.getElem_cons_succ, Act.put, List.setIfInBounds_toArray, List.set_cons_zero, List.set_cons_succ])
    refine wpAnyH_done (by kernel_rfl) ?_ _
    go_wp2_with fail
    go_ret
    exact ⟨rfl, bt hb0 hb2⟩
  case pos =>
    have n1 : ((n : Int) != (D : Int) + 1) = false := by rw [hl]; exact bne_self_eq_false _
    have n2 : ((n : Int) == (D : Int) + 1) = true := by rw [hl]; exact beq_self_eq_true _
    have i1 : (D : Int) < (n : Int) := by omega
    obtain ⟨b1, off, e, hA1, hb1, c0, c1, c2, -, e1⟩ := ent_at HX.out.h (show D < x.es.length by have := HN.out; omega)
    rw [hA1] at t0 T1
    have c2' : w1.cell? ⟨b1, off + D * 3 + 2, none⟩ = some (.bool e.ls) := c2
    have HE := Lib.hid e1
    have HA := Lib.hid hA1
    have HF := Lib.hid (show ∀ W, Below w1.heap.size w1 W → W.cell? ⟨w.heap.size, 0, none⟩ = some (.int .i64 z) ∧ W.cell? ⟨w.heap.size, 1, none⟩ = some (.int .i64 D) ∧ W.cell? ⟨w.heap.size, 2, none⟩ = some (.int .i64 s) ∧ W.cell? ⟨w.heap.size, 3, none⟩ = some (.int .i64 l) ∧ W.cell? ⟨w.heap.size, 4, none⟩ = some (.int .i64 a) ∧ W.cell? ⟨w.heap.size + 1, 0, none⟩ = some (.slice (some ⟨b1, off, none⟩) n x.c) ∧ W.cell? ⟨b1, off + D * 3 + 2, none⟩ = some (.bool e.ls) ∧ Below w1.heap.size w1 W from fun W h => ⟨kst h (by omega) g0, kst h (by omega) g1, kst h (by omega) g2, kst h (by omega) g3, kst h (by omega) g4, kst h l1 t0, kst h hb1 c2', h⟩)
    have HL := Lib.hid hl
    clear e1 hA1 c0 c1 c2 c2' hl
    obtain ⟨q, hq⟩ : ∃ q, q = e.ls := ⟨_, rfl⟩
    rw [← hq] at HF
    have HQ := Lib.hid hq
    clear hq
    go_region_held3 (fun W => W.cell? ⟨w.heap.size, 0, none⟩ = some (.int .i64 z) ∧ W.cell? ⟨w.heap.size, 1, none⟩ = some (.int .i64 D) ∧ W.cell? ⟨w.heap.size, 2, none⟩ = some (.int .i64 s) ∧ W.cell? ⟨w.heap.size, 3, none⟩ = some (.int .i64 l) ∧ W.cell? ⟨w.heap.size, 4, none⟩ = some (.int .i64 a) ∧ W.cell? ⟨w.heap.size + 1, 0, none⟩ = some (.slice (some ⟨b1, off, none⟩) n x.c) ∧ W.cell? ⟨b1, off + D * 3 + 2, none⟩ = some (.bool q) ∧ Below w1.heap.size w1 W)
      (first
        | exact HF.out _ (below_dr (Below.refl _ _))
        | exact HF.out _ hbS
        | fail)
      (first
        | (go_at_call 44; (with_reducible refine (cE _).mono ?_); rintro e w2 ⟨rfl, hb2⟩; have hbq : Below w1.heap.size w1 w2 := (by first | exact bt hbS hb2 | exact bt (below_dr (Below.refl w1.heap.size w1)) hb2); (try clear hbS); have hbS := hbq; clear hbq)
        | (go_at_call 45; (with_reducible refine (cP _).mono ?_); rintro e w2 ⟨rfl, hb2⟩; have hbq : Below w1.heap.size w1 w2 := (by first | exact bt hbS hb2 | exact bt (below_dr (Below.refl w1.heap.size w1)) hb2); (try clear hbS); have hbS := hbq; clear hbq)
        | fail)
    have HTF := Lib.hid (show ∀ W, Below w1.heap.size w1 W → C1 W (w.heap.size + 1) (.slice (some ⟨b1, off, none⟩) n x.c) from fun W h => T1.keep h l1)
    have HX1 := HX.out
    have hb01 := hb0
    all_goals
      have T5 := HTF.out _ hbS
      have t5 := T5.c0
      have hb5 := bt hb01 hbS
      have hX5 := HX1.next hbS
      have l5 := Nat.lt_of_lt_of_le l1 hbS.size
      clear HF hbS hb2 g0 g1 g2 g3 g4 GG T1 t0 cE cP HTF HX HX1 hb0 hb01
      cases q
    case true =>
      obtain rfl : c = false := by
        cases c with
        | false => rfl
        | true =>
          have h9 := (HC.out.1 rfl).2.2 e (by rw [Int.toNat_natCast]; exact HE.out)
          rw [← HQ.out] at h9
          cases h9
      clear HC HQ
      go_wp2_with fail
      go_ret
      exact ⟨rfl, hb5⟩
    case false =>
      have HG := Lib.hid (show (∀ u ∈ x.es, EntOk u) → c = true from fun h => HC.out.2 ⟨by rw [← HN.out, HL.out]; omega, h, fun u hu => by
        rw [Int.toNat_natCast, HE.out] at hu
        obtain rfl := Option.some.inj hu
        exact HQ.out.symm⟩)
      have HB := Lib.hid (show ∀ u ∈ x.es, ¬ EntOk u → c = false from fun u hu hno => by
        cases c with
        | false => rfl
        | true => exact absurd ((HC.out.1 rfl).2.1 u hu) hno)
      clear HC HQ HE
      go_wp2_with fail
      go_loopw [31] (fun i w' => ∃ k : Nat, k ≤ n ∧ i = .int .i64 k ∧ (∀ u ∈ x.es.take k, EntOk u) ∧ Below w2.heap.size w2 w') (fun i _ => n - (RowKit.intOf i).toNat)
      case atStart => exact ⟨0, by omega, rfl, fun u hu => by simp at hu, Below.refl _ _⟩
      case round =>
        obtain ⟨w6, rfl⟩ : ∃ x, x = wr := ⟨wr, rfl⟩
        obtain ⟨k, hk, rfl, hok, hbr⟩ := hrel
        clear t5 T5
        by_cases hlt : k < n
        · have j1 : (k : Int) < (n : Int) := by omega
          obtain ⟨b2, off2, u, hA2, hb2, c0, c1, c2, hu, e2⟩ := ent_at (hX5.next hbr).h (show k < x.es.length by have := HN.out; omega)
          obtain ⟨rfl, rfl⟩ : b1 = b2 ∧ off = off2 := by
            have h9 := HA.out.symm.trans hA2
            simp only [Option.some.injEq, Addr.mk.injEq, and_true] at h9
            exact h9
          have HT := Lib.hid (take_next e2)
          have HU := Lib.hid hu
          have hbe := bl w6 (.cells #[.int .i64 u.st, .int .i64 u.sm, .bool u.ls] 54)
          obtain ⟨st, hst0⟩ : ∃ q, q = u.st := ⟨_, rfl⟩
          obtain ⟨sm, hsm0⟩ : ∃ q, q = u.sm := ⟨_, rfl⟩
          rw [← hst0] at c0 hbe
          rw [← hsm0] at c1 hbe
          have HS := Lib.hid hst0
          have HM := Lib.hid hsm0
          have HOK := Lib.hid hok
          clear hA2 hu e2 hst0 hsm0 hok
          have hbf := bt (bt hb5 hbr) hbe
          have hbg := bt hbr hbe
          by_cases hst : 0 ≤ st ∧ st ≤ 4294967295
          · have cS := fun W => isNum_at true st W (iff_of_true rfl hst)
            by_cases hsm : 0 ≤ sm ∧ sm ≤ 4294967295
            · have cM := fun W => isNum_at true sm W (iff_of_true rfl hsm)
              have HK := Lib.hid (show EntOk u from ⟨by rw [← HS.out]; exact hst, by rw [← HM.out]; exact hsm⟩)
              clear hst hsm
              go_wp2_with (first
                | (go_at_call 46; (with_reducible refine (cS _).mono ?_); rintro e w' ⟨rfl, rfl⟩)
                | (go_at_call 46; (with_reducible refine (cM _).mono ?_); rintro e w' ⟨rfl, rfl⟩))
              go_roundw
              case rel => exact ⟨k + 1, by omega, by go_num, by rw [HT.out]; intro v hv; rcases List.mem_append.1 hv with hv | hv; exact HOK.out v hv; (rw [List.mem_singleton.1 hv]; exact HK.out), hbg⟩
              case measure => simp [RowKit.intOf]; omega
            · have cM := fun W => isNum_at false sm W (iff_of_false Bool.false_ne_true hsm)
              obtain rfl : c = false := HB.out u HU.out fun h => hsm (by have := h.2; rwa [← HM.out] at this)
              clear hst hsm HG HB
              go_wp2_with (first
                | (go_at_call 46; (with_reducible refine (cS _).mono ?_); rintro e w' ⟨rfl, rfl⟩)
                | (go_at_call 46; (with_reducible refine (cM _).mono ?_); rintro e w' ⟨rfl, rfl⟩))
              go_ret
              exact ⟨rfl, hbf⟩
          · have cS := fun W => isNum_at false st W (iff_of_false Bool.false_ne_true hst)
            obtain rfl : c = false := HB.out u HU.out fun h => hst (by have := h.1; rwa [← HS.out] at this)
            clear hst HG HB
            go_wp2_with (go_at_call 46; (with_reducible refine (cS _).mono ?_); rintro e w' ⟨rfl, rfl⟩)
            go_ret
            exact ⟨rfl, hbf⟩
        · have j1 : ¬ (k : Int) < (n : Int) := by omega
          obtain rfl : c = true := HG.out (by rw [List.take_of_length_le (by have := HN.out; omega)] at hok; exact hok)
          have hbf := bt hb5 hbr
          clear HG HB hok
          go_wp2_with fail
          go_ret
          exact ⟨rfl, hbf⟩
end Go.Proofs.Ytajjmllolaajoaa.tbl
