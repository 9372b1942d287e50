/-
  Package table: First, tableSizes. Conditions: a right geometry.
-/
import Derived.Test.YtldknkikekaifaaTbB
import Derived.Deep.RegionHeld3
namespace Go.Proofs.Ytldknkikekaifaa.tbl
open Go.RowKit Go.Lib
open Go.Proofs.Ytldknkikekaifaa.gmt (Ok five_new check_ok check_no)
open Go.Proofs.Ytldknkikekaifaa.anc (flat_get flat_len slv_cell bl kal kst ks bm ka row_form row_below)

def row41 : List Value := [.int .i64 4, .int .i64 4, .int .i64 1]
theorem row41_one : ∀ u ∈ row41, u.oneCell' = true := by
  intro u hu
  simp only [row41, List.mem_cons, List.not_mem_nil, or_false] at hu
  rcases hu with rfl | rfl | rfl <;> rfl
def SzsQ (e : Ending) (w' : World) : Prop := ∃ a c, e = .returned (.slice (some a) 3 c) ∧ SlV w' w'.heap.size (some a) row41
set_option maxRecDepth 100000 in
theorem entrySizes_at (w : World) :
    Calls Try.prog 48 #[] w fun e w' => SzsQ e w' ∧ Below w.heap.size w w' := by
  have hs : SlV (w.alloc (.cells #[.int .i64 4, .int .i64 4, .int .i64 1] 3)) (w.alloc (.cells #[.int .i64 4, .int .i64 4, .int .i64 1] 3)).heap.size (some ⟨w.heap.size, 0, none⟩) row41 := SlV.of_block (heap_alloc_new w _) rfl (by simp)
  have B0 := bl w (.cells #[.int .i64 4, .int .i64 4, .int .i64 1] 3)
  go_enter Try.func48, Try.ntmps48
  go_wp2
  go_ret
  exact ⟨⟨_, _, rfl, hs⟩, B0⟩
theorem repE_at (D : Nat) (a : Addr) (c : Nat) (p : List Value) (w : World) (h1 : 1 ≤ D) (h2 : D ≤ 4) (hp : p.length = 3) (hp1 : ∀ u ∈ p, u.oneCell' = true) (hA : SlV w w.heap.size (some a) p) :
    Calls Try.prog 27 #[.slice (some a) 1 c, .int .i64 ((D : Int) + 1)] w fun e w' => RepE w.heap.size (D + 1) (reps p (D + 1)) e w' ∧ Below w.heap.size w w' := by
  rcases (show D = 1 ∨ D = 2 ∨ D = 3 ∨ D = 4 by omega) with rfl | rfl | rfl | rfl
  · exact repE_any 2 2 a c w.heap.size p w (by omega) (by omega) rfl hp hp1 hA (Nat.le_refl _) mul_1_2
  · exact repE_any 3 3 a c w.heap.size p w (by omega) (by omega) rfl hp hp1 hA (Nat.le_refl _) mul_1_3
  · exact repE_any 4 4 a c w.heap.size p w (by omega) (by omega) rfl hp hp1 hA (Nat.le_refl _) mul_1_4
  · exact repE_any 5 5 a c w.heap.size p w (by omega) (by omega) rfl hp hp1 hA (Nat.le_refl _) mul_1_5
theorem repI_at (D : Nat) (a : Addr) (c : Nat) (p : List Value) (w : World) (h1 : 1 ≤ D) (h2 : D ≤ 4) (hp : p.length = 3) (hp1 : ∀ u ∈ p, u.oneCell' = true) (hA : SlV w w.heap.size (some a) p) :
    Calls Try.prog 47 #[.slice (some a) 3 c, .int .i64 ((D : Int) + 1)] w fun e w' => RepI w.heap.size ((D + 1) * 3) (reps p (D + 1)) e w' ∧ Below w.heap.size w w' := by
  rcases (show D = 1 ∨ D = 2 ∨ D = 3 ∨ D = 4 by omega) with rfl | rfl | rfl | rfl
  · exact repI_any 6 2 a c w.heap.size p w (by omega) (by omega) rfl hp hp1 hA (Nat.le_refl _) mul_3_2
  · exact repI_any 9 3 a c w.heap.size p w (by omega) (by omega) rfl hp hp1 hA (Nat.le_refl _) mul_3_3
  · exact repI_any 12 4 a c w.heap.size p w (by omega) (by omega) rfl hp hp1 hA (Nat.le_refl _) mul_3_4
  · exact repI_any 15 5 a c w.heap.size p w (by omega) (by omega) rfl hp hp1 hA (Nat.le_refl _) mul_3_5
set_option maxRecDepth 100000 in
set_option maxHeartbeats 4000000 in
theorem tableSizes_at (z s l a : Int) (D : Nat) (w : World) (h1 : 1 ≤ D) (h2 : D ≤ 4) :
    Calls Try.prog 31 #[.agg #[.int .i64 z, .int .i64 D, .int .i64 s, .int .i64 l, .int .i64 a]] w fun e w' => RepI w.heap.size ((D + 1) * 3) (reps row41 (D + 1)) e w' ∧ Below w.heap.size w w' := by
  have GG := g5_new w z D s l a
  have hb0 := bl w (.cells #[.int .i64 z, .int .i64 D, .int .i64 s, .int .i64 l, .int .i64 a] 23)
  have l1 : w.heap.size < (w.alloc (.cells #[.int .i64 z, .int .i64 D, .int .i64 s, .int .i64 l, .int .i64 a] 23)).heap.size := by simp
  have cE := fun W => entryCount_at z s l a D W h2
  have cR := fun (a : Addr) (c : Nat) (W : World) (hA : SlV W W.heap.size (some a) row41) => repI_at D a c row41 W h1 h2 rfl row41_one hA
  go_enter Try.func31, Try.ntmps31
  go_upto_region 1 with fail
  generalize w.alloc (.cells #[.int .i64 z, .int .i64 D, .int .i64 s, .int .i64 l, .int .i64 a] 23) = w0 at *
  obtain ⟨g0, g1, g2, g3, g4⟩ := id GG
  have HF := Lib.hid (show ∀ W, Below w0.heap.size w0 W → W.cell? ⟨w.heap.size, 0, none⟩ = some (.int .i64 z) ∧ W.cell? ⟨w.heap.size, 1, none⟩ = some (.int .i64 D) ∧ W.cell? ⟨w.heap.size, 2, none⟩ = some (.int .i64 s) ∧ W.cell? ⟨w.heap.size, 3, none⟩ = some (.int .i64 l) ∧ W.cell? ⟨w.heap.size, 4, none⟩ = some (.int .i64 a) ∧ Below w0.heap.size w0 W from fun W h => ⟨kst h l1 g0, kst h l1 g1, kst h l1 g2, kst h l1 g3, kst h l1 g4, h⟩)
  go_region_held3 (fun W => W.cell? ⟨w.heap.size, 0, none⟩ = some (.int .i64 z) ∧ W.cell? ⟨w.heap.size, 1, none⟩ = some (.int .i64 D) ∧ W.cell? ⟨w.heap.size, 2, none⟩ = some (.int .i64 s) ∧ W.cell? ⟨w.heap.size, 3, none⟩ = some (.int .i64 l) ∧ W.cell? ⟨w.heap.size, 4, none⟩ = some (.int .i64 a) ∧ Below w0.heap.size w0 W)
    (first
      | exact HF.out _ (below_dr (Below.refl _ _))
      | exact HF.out _ hbS
      | fail)
    (first
      | (go_at_call 28; (with_reducible refine (cE _).mono ?_); rintro e w2 ⟨rfl, hb2⟩; (try replace sl := sl.next hb2); have hbq : Below w0.heap.size w0 w2 := (by first | exact bt hbS hb2 | exact bt (below_dr (Below.refl w0.heap.size w0)) hb2); (try clear hbS); have hbS := hbq; clear hbq)
      | (go_at_call 48; (with_reducible refine (entrySizes_at _).mono ?_); rintro e w2 ⟨⟨a2, c2, rfl, sl⟩, hb2⟩; have hbq : Below w0.heap.size w0 w2 := (by first | exact bt hbS hb2 | exact bt (below_dr (Below.refl w0.heap.size w0)) hb2); (try clear hbS); have hbS := hbq; clear hbq)
      | (go_at_call 47; (with_reducible refine (cR _ _ _ ?_).mono ?_); (focus exact sl); rintro e w3 ⟨⟨A3, c3, rfl, o3⟩, hb3⟩; have hbR := hbS.size; have hbq : Below w0.heap.size w0 w3 := bt hbS hb3; clear hbS; have hbS := hbq; clear hbq)
      | fail)
  all_goals
    go_wp2_with fail
    go_ret
    exact ⟨⟨_, _, rfl, by
      have h9 := o3
      refine ⟨h9.1, ?_⟩
      rcases h9.2 with k | ⟨g, cap, cur, q1, q2, q3⟩
      · exact .inl k
      · exact .inr ⟨g, cap, cur, q1, by have := hb0.size; omega, q3⟩⟩, bt hb0 hbS⟩
set_option maxRecDepth 100000 in
set_option maxHeartbeats 4000000 in
theorem tfirst_no (z d s l a : Int) (w : World) (ho : ¬ Ok z d s l a) :
    Calls Try.prog 8 #[.agg #[.int .i64 z, .int .i64 d, .int .i64 s, .int .i64 l, .int .i64 a]] w fun e w' => TbE w.heap.size [] 1 e w' ∧ Below w.heap.size w w' := by
  have cC := fun W => check_no z d s l a W ho
  have s1 : (w.alloc (.cells #[.int .i64 z, .int .i64 d, .int .i64 s, .int .i64 l, .int .i64 a] 23)).heap.size = w.heap.size + 1 := by simp
  have hx2 := bl (w.alloc (.cells #[.int .i64 z, .int .i64 d, .int .i64 s, .int .i64 l, .int .i64 a] 23)) (.cells #[.slice none 0 0] 26)
  have GG := (g5_new w z d s l a).keep hx2 (by omega)
  have T1 := c1_new (w.alloc (.cells #[.int .i64 z, .int .i64 d, .int .i64 s, .int .i64 l, .int .i64 a] 23)) (.slice none 0 0) 26
  rw [s1] at T1
  have hb0 := kal (bl w (.cells #[.int .i64 z, .int .i64 d, .int .i64 s, .int .i64 l, .int .i64 a] 23)) (.cells #[.slice none 0 0] 26)
  have l1 : w.heap.size + 1 < ((w.alloc (.cells #[.int .i64 z, .int .i64 d, .int .i64 s, .int .i64 l, .int .i64 a] 23)).alloc (.cells #[.slice none 0 0] 26)).heap.size := by simp
  clear s1 hx2
  clear ho
  go_enter Try.func8, Try.ntmps8
  go_upto_region 1 with fail
  generalize (w.alloc (.cells #[.int .i64 z, .int .i64 d, .int .i64 s, .int .i64 l, .int .i64 a] 23)).alloc (.cells #[.slice none 0 0] 26) = w0 at *
  obtain ⟨g0, g1, g2, g3, g4⟩ := id GG
  go_wp2_with (go_at_call 25; (with_reducible refine (cC _).mono ?_); rintro e w1 ⟨rfl, hb1⟩; have P := T1.keep hb1 l1; have p0 := P.c0; have f0 := P.f0)
  have k1 := P.set (.slice none 0 0)
  have hb5 := (bt hb0 hb1).setCell (p := ⟨w.heap.size + 1, 0, none⟩) (show w.heap.size ≤ w.heap.size + 1 by omega) (.slice none 0 0)
  exact bodyPost_ret (v := .tuple #[.agg #[.slice none 0 0], .int .i64 1]) (by simp [results, Try.results8, go_sem, k1.c0]) rfl ⟨⟨noTV, rfl, rfl, noTV_own _ _⟩, hb5⟩
theorem reps_evs (e : Ent) : ∀ q, reps e.vs q = evs (List.replicate q e)
  | 0 => rfl
  | q + 1 => by
    have h := reps_evs e q
    unfold reps evs at *
    rw [List.replicate_succ, List.flatten_cons, h, List.replicate_succ, List.flatMap_cons]
theorem evs_cell (e : Ent) : ∀ u ∈ e.vs, u.oneCell' = true := by
  intro u hu
  simp only [Ent.vs, List.mem_cons, List.not_mem_nil, or_false] at hu
  rcases hu with rfl | rfl | rfl <;> rfl
set_option maxRecDepth 100000 in
set_option maxHeartbeats 4000000 in
theorem tfirst_ok (z s l a : Int) (D : Nat) (w : World) (ho : Ok z D s l a) :
    Calls Try.prog 8 #[.agg #[.int .i64 z, .int .i64 D, .int .i64 s, .int .i64 l, .int .i64 a]] w fun e w' => TbE w.heap.size (List.replicate (D + 1) newE) 0 e w' ∧ Below w.heap.size w w' := by
  have cC := fun W => check_ok z D s l a W ho
  have o2 := ho.2.1
  have hD : D ≤ 4 := by omega
  have hD1 : 1 ≤ D := by omega
  have cE := fun W => entryCount_at z s l a D W hD
  obtain ⟨N, hN⟩ : ∃ N : Int, N = (crc.sum zer8 : Nat) := ⟨_, rfl⟩
  have cS := fun (W : World) (g : Nat) (h : Sl W W.heap.size (some ⟨g, 0, none⟩) zer8) => crc.of_any (some ⟨g, 0, none⟩) 8 W.heap.size zer8 W h (by unfold maxLen; decide)
  rw [show zer8.length = 8 from rfl] at cS
  rw [← hN] at cS
  have HR := Lib.hid (show ∀ (W : World) (g : Nat), W.heap[g]? = some (.cells #[.int .i64 0, .int .i64 N, .bool false] 47) → Calls Try.prog 27 #[.slice (some ⟨g, 0, none⟩) 1 1, .int .i64 ((D : Int) + 1)] W fun e w' => RepE W.heap.size (D + 1) (evs (List.replicate (D + 1) newE)) e w' ∧ Below W.heap.size W w' from fun W g hg => by
    have h9 := repE_at D ⟨g, 0, none⟩ 1 newE.vs W hD1 hD rfl (evs_cell newE) (SlV.of_block hg (by rw [hN]; rfl) (Array.getElem?_eq_some_iff.1 hg).1)
    rwa [reps_evs] at h9)
  clear hN
  have s1 : (w.alloc (.cells #[.int .i64 z, .int .i64 D, .int .i64 s, .int .i64 l, .int .i64 a] 23)).heap.size = w.heap.size + 1 := by simp
  have hx2 := bl (w.alloc (.cells #[.int .i64 z, .int .i64 D, .int .i64 s, .int .i64 l, .int .i64 a] 23)) (.cells #[.slice none 0 0] 26)
  have GG := (g5_new w z D s l a).keep hx2 (by omega)
  have T1 := c1_new (w.alloc (.cells #[.int .i64 z, .int .i64 D, .int .i64 s, .int .i64 l, .int .i64 a] 23)) (.slice none 0 0) 26
  rw [s1] at T1
  have hb0 := kal (bl w (.cells #[.int .i64 z, .int .i64 D, .int .i64 s, .int .i64 l, .int .i64 a] 23)) (.cells #[.slice none 0 0] 26)
  have l1 : w.heap.size + 1 < ((w.alloc (.cells #[.int .i64 z, .int .i64 D, .int .i64 s, .int .i64 l, .int .i64 a] 23)).alloc (.cells #[.slice none 0 0] 26)).heap.size := by simp
  clear s1 hx2
  clear ho o2
  go_enter Try.func8, Try.ntmps8
  go_upto_region 1 with fail
  generalize (w.alloc (.cells #[.int .i64 z, .int .i64 D, .int .i64 s, .int .i64 l, .int .i64 a] 23)).alloc (.cells #[.slice none 0 0] 26) = w0 at *
  obtain ⟨g0, g1, g2, g3, g4⟩ := id GG
  go_upto_region 4 with (go_at_call 25; (with_reducible refine (cC _).mono ?_); rintro e w1 ⟨rfl, hb1⟩)
  replace GG := GG.keep hb1 (by omega)
  replace T1 := T1.keep hb1 l1
  replace hb0 := bt hb0 hb1
  replace l1 := Nat.lt_of_lt_of_le l1 hb1.size
  clear g0 g1 g2 g3 g4 hb1 w0 cC
  have hmk := z8_run w1
  have hz := bl w1 (.cells z8cells 5)
  have slz := z8_sl w1
  go_upto_region 5 with (go_at_call 26; (with_reducible refine (cS _ _ slz).mono ?_); rintro e w2 ⟨rfl, rfl⟩)
  have hx := bl (w1.alloc (.cells z8cells 5)) (.cells #[.int .i64 0, .int .i64 N, .bool false] 47)
  have XE := heap_alloc_new (w1.alloc (.cells z8cells 5)) (.cells #[.int .i64 0, .int .i64 N, .bool false] 47)
  have s3 : (w1.alloc (.cells z8cells 5)).heap.size = w1.heap.size + 1 := by simp
  rw [s3] at XE
  have hz2 := bt hz hx
  replace GG := GG.keep hz2 (by omega)
  replace T1 := T1.keep hz2 l1
  replace hb0 := bt hb0 hz2
  have l2 : w1.heap.size + 1 < ((w1.alloc (.cells z8cells 5)).alloc (.cells #[.int .i64 0, .int .i64 N, .bool false] 47)).heap.size := by simp
  have lE0 : w.heap.size + 1 < w1.heap.size + 1 := by omega
  replace l1 := Nat.lt_of_lt_of_le l1 hz2.size
  obtain ⟨gE, hgE⟩ : ∃ g, g = w1.heap.size + 1 := ⟨_, rfl⟩
  (try rw [s3])
  rw [← hgE] at XE l2 lE0 ⊢
  clear hgE hmk hz slz hx s3 hz2
  generalize (w1.alloc (.cells z8cells 5)).alloc (.cells #[.int .i64 0, .int .i64 N, .bool false] 47) = w2 at *
  have e0 : w2.cell? ⟨gE, 0, none⟩ = some (.int .i64 0) := by rw [cell_of_row _ _ _ _ _ _ XE]; rfl
  have e1 : w2.cell? ⟨gE, 1, none⟩ = some (.int .i64 N) := by rw [cell_of_row _ _ _ _ _ _ XE]; rfl
  have e2 : w2.cell? ⟨gE, 2, none⟩ = some (.bool false) := by rw [cell_of_row _ _ _ _ _ _ XE]; rfl
  obtain ⟨g0, g1, g2, g3, g4⟩ := id GG
  have HF := Lib.hid (show ∀ W, Below w2.heap.size w2 W → W.cell? ⟨w.heap.size, 0, none⟩ = some (.int .i64 z) ∧ W.cell? ⟨w.heap.size, 1, none⟩ = some (.int .i64 D) ∧ W.cell? ⟨w.heap.size, 2, none⟩ = some (.int .i64 s) ∧ W.cell? ⟨w.heap.size, 3, none⟩ = some (.int .i64 l) ∧ W.cell? ⟨w.heap.size, 4, none⟩ = some (.int .i64 a) ∧ W.cell? ⟨gE, 0, none⟩ = some (.int .i64 0) ∧ W.cell? ⟨gE, 1, none⟩ = some (.int .i64 N) ∧ W.cell? ⟨gE, 2, none⟩ = some (.bool false) ∧ Below w.heap.size w W from fun W h => ⟨kst h (by omega) g0, kst h (by omega) g1, kst h (by omega) g2, kst h (by omega) g3, kst h (by omega) g4, kst h l2 e0, kst h l2 e1, kst h l2 e2, bt hb0 h⟩)
  have HF2 := Lib.hid (show ∀ W v, Below w2.heap.size w2 W → (fun W => W.cell? ⟨w.heap.size, 0, none⟩ = some (.int .i64 z) ∧ W.cell? ⟨w.heap.size, 1, none⟩ = some (.int .i64 D) ∧ W.cell? ⟨w.heap.size, 2, none⟩ = some (.int .i64 s) ∧ W.cell? ⟨w.heap.size, 3, none⟩ = some (.int .i64 l) ∧ W.cell? ⟨w.heap.size, 4, none⟩ = some (.int .i64 a) ∧ W.cell? ⟨gE, 0, none⟩ = some (.int .i64 0) ∧ W.cell? ⟨gE, 1, none⟩ = some (.int .i64 N) ∧ W.cell? ⟨gE, 2, none⟩ = some (.bool false) ∧ Below w.heap.size w W) (W.setCell ⟨w.heap.size + 1, 0, none⟩ v) from fun W v h => ⟨by rw [World.cell?_setCell_other _ _ _ _ (by simp)]; exact kst h (by omega) g0, by rw [World.cell?_setCell_other _ _ _ _ (by simp)]; exact kst h (by omega) g1, by rw [World.cell?_setCell_other _ _ _ _ (by simp)]; exact kst h (by omega) g2, by rw [World.cell?_setCell_other _ _ _ _ (by simp)]; exact kst h (by omega) g3, by rw [World.cell?_setCell_other _ _ _ _ (by simp)]; exact kst h (by omega) g4, by rw [World.cell?_setCell_other _ _ _ _ (fun k => by have := congrArg Addr.block k; simp at this; omega)]; exact kst h l2 e0, by rw [World.cell?_setCell_other _ _ _ _ (fun k => by have := congrArg Addr.block k; simp at this; omega)]; exact kst h l2 e1, by rw [World.cell?_setCell_other _ _ _ _ (fun k => by have := congrArg Addr.block k; simp at this; omega)]; exact kst h l2 e2, (bt hb0 h).setCell (p := ⟨w.heap.size + 1, 0, none⟩) (show w.heap.size ≤ w.heap.size + 1 by omega) _⟩)
  have HT := Lib.hid (show ∀ W, Below w2.heap.size w2 W → C1 W (w.heap.size + 1) (.slice none 0 0) from fun W h => T1.keep h l1)
  have HB2 := Lib.hid (Below.refl w2.heap.size w2)
  go_region_held3 (fun W => W.cell? ⟨w.heap.size, 0, none⟩ = some (.int .i64 z) ∧ W.cell? ⟨w.heap.size, 1, none⟩ = some (.int .i64 D) ∧ W.cell? ⟨w.heap.size, 2, none⟩ = some (.int .i64 s) ∧ W.cell? ⟨w.heap.size, 3, none⟩ = some (.int .i64 l) ∧ W.cell? ⟨w.heap.size, 4, none⟩ = some (.int .i64 a) ∧ W.cell? ⟨gE, 0, none⟩ = some (.int .i64 0) ∧ W.cell? ⟨gE, 1, none⟩ = some (.int .i64 N) ∧ W.cell? ⟨gE, 2, none⟩ = some (.bool false) ∧ Below w.heap.size w W)
    (first
      | exact HF.out _ (below_dr (Below.refl _ _))
      | exact HF.out _ hbS
      | exact HF.out _ (below_dr (bl w2 _))
      | exact HF.out _ (kal hbS _)
      | exact HF2.out _ _ hbS
      | fail)
    (first
      | (go_at_call 28; (with_reducible refine (cE _).mono ?_); rintro e w4 ⟨rfl, hb4⟩; have hbq : Below w2.heap.size w2 w4 := (by first | exact bt (below_dr (bl w2 _)) hb4 | exact bt (below_dr (Below.refl w2.heap.size w2)) hb4); have hbS := hbq; clear hbq; (try (have HX : Hid (w4.heap[w2.heap.size]? = some (.cells #[.int .i64 0, .int .i64 N, .bool false] 47)) := Lib.hid ((hb4.block _ (by simp)).trans (heap_alloc_new w2.drew (.cells #[.int .i64 0, .int .i64 N, .bool false] 47))))))
      | (go_at_call 27; (with_reducible refine (HR.out _ _ ?_).mono ?_); (focus (first | exact HX.out | exact heap_alloc_new _ _)); rintro e w5 ⟨⟨A5, c5, rfl, o5⟩, hb5⟩; have hbq : Below w2.heap.size w2 w5 := (by first | exact bt hbS hb5 | exact bt (kal hbS _) hb5); have hsz := hbS.size; have o6 : OwnE w5 (w.heap.size + 2) (.slice A5 (D + 1 : Nat) c5) (List.replicate (D + 1) newE) := OwnE.less (by unfold OwnE; rw [List.length_replicate]; exact o5) (by first | omega | (rw [World.size_alloc]; omega)); clear hsz o5; clear hbS; have hbS := hbq; clear hbq; have P5 := HT.out _ hbS; have p0 := P5.c0; have f0 := P5.f0)
      | fail)
  all_goals
    clear HF HF2 HT HB2 cE cS HR p0 f0
    have k1 := P5.set (.slice A5 (D + 1 : Nat) c5)
    have hl : (List.replicate (D + 1) newE).length = D + 1 := List.length_replicate
    have o7 := OwnE.less (base' := w.heap.size) (OwnE.cell_set (o := 0) o6 (show w.heap.size + 1 < w.heap.size + 2 by omega) (.slice A5 (D + 1 : Nat) c5)) (by omega)
    have hb7 := (bt hb0 hbS).setCell (p := ⟨w.heap.size + 1, 0, none⟩) (show w.heap.size ≤ w.heap.size + 1 by omega) (.slice A5 (D + 1 : Nat) c5)
    have HO := Lib.hid (show TbE w.heap.size (List.replicate (D + 1) newE) 0 (.returned (.tuple #[.agg #[.slice A5 (D + 1 : Nat) c5], .int .i64 0])) (w5.setCell ⟨w.heap.size + 1, 0, none⟩ (.slice A5 (D + 1 : Nat) c5)) from ⟨⟨A5, c5, List.replicate (D + 1) newE⟩, by unfold TV.v; rw [hl], rfl, by unfold TV.Own; rw [hl]; exact o7⟩)
    clear hl o7 o6
    go_wp2_with fail
    exact bodyPost_ret (v := .tuple #[.agg #[.slice A5 (D + 1 : Nat) c5], .int .i64 0]) (by simp [results, Try.results8, go_sem, k1.c0]) rfl ⟨HO.out, hb7⟩
end Go.Proofs.Ytldknkikekaifaa.tbl
