/-
  Package table: First, tableSizes. Conditions: a right geometry.
-/
import Derived.Test.YtejfehkcjcohdaaTbB
import Derived.Deep.RegionHeld3
namespace Go.Proofs.Ytejfehkcjcohdaa.tbl
open Go.RowKit Go.Lib
open Go.Proofs.Ytejfehkcjcohdaa.gmt (Ok five_new check_ok check_no)
open Go.Proofs.Ytejfehkcjcohdaa.anc (flat_get flat_len slv_cell bl kal kst ks bm ka row_form row_below)

def row41 : List Value := [.int .i64 4, .int .i64 4, .int .i64 1]
theorem row41_one : ∀ u ∈ row41, u.oneCell' = true := by
  intro u hu
  simp only [row41, List.mem_cons, List.not_mem_nil, or_false] at hu
  rcases hu with rfl | rfl | rfl <;> rfl
def SzsQ (e : Ending) (w' : World) : Prop := ∃ a c, e = .returned (.slice (some a) 3 c) ∧ SlV w' w'.heap.size (some a) row41
set_option maxRecDepth 100000 in
theorem entrySizes_at (w : World) :
    Calls Try.prog 62 #[] w fun e w' => SzsQ e w' ∧ Below w.heap.size w w' := by
  have hs : SlV (w.alloc (.cells #[.int .i64 4, .int .i64 4, .int .i64 1] 3)) (w.alloc (.cells #[.int .i64 4, .int .i64 4, .int .i64 1] 3)).heap.size (some ⟨w.heap.size, 0, none⟩) row41 := SlV.of_block (heap_alloc_new w _) rfl (by simp)
  have B0 := bl w (.cells #[.int .i64 4, .int .i64 4, .int .i64 1] 3)
  go_enter Try.func62, Try.ntmps62
  go_wp2
  go_ret
  exact ⟨⟨_, _, rfl, hs⟩, B0⟩
theorem repI_at (D : Nat) (a : Addr) (c : Nat) (p : List Value) (w : World) (h1 : 1 ≤ D) (h2 : D ≤ 4) (hp : p.length = 3) (hp1 : ∀ u ∈ p, u.oneCell' = true) (hA : SlV w w.heap.size (some a) p) :
    Calls Try.prog 71 #[.slice (some a) 3 c, .int .i64 ((D : Int) + 1)] w fun e w' => RepI w.heap.size ((D + 1) * 3) (reps p (D + 1)) e w' ∧ Below w.heap.size w w' := by
  rcases (show D = 1 ∨ D = 2 ∨ D = 3 ∨ D = 4 by omega) with rfl | rfl | rfl | rfl
  · exact repI_any 6 2 a c w.heap.size p w (by omega) (by omega) rfl hp hp1 hA (Nat.le_refl _) mul_3_2
  · exact repI_any 9 3 a c w.heap.size p w (by omega) (by omega) rfl hp hp1 hA (Nat.le_refl _) mul_3_3
  · exact repI_any 12 4 a c w.heap.size p w (by omega) (by omega) rfl hp hp1 hA (Nat.le_refl _) mul_3_4
  · exact repI_any 15 5 a c w.heap.size p w (by omega) (by omega) rfl hp hp1 hA (Nat.le_refl _) mul_3_5
set_option maxRecDepth 100000 in
set_option maxHeartbeats 4000000 in
theorem tableSizes_at (z s l a : Int) (D : Nat) (w : World) (h1 : 1 ≤ D) (h2 : D ≤ 4) :
    Calls Try.prog 60 #[.agg #[.int .i64 z, .int .i64 D, .int .i64 s, .int .i64 l, .int .i64 a]] w fun e w' => RepI w.heap.size ((D + 1) * 3) (reps row41 (D + 1)) e w' ∧ Below w.heap.size w w' := by
  have GG := g5_new w z D s l a
  have hb0 := bl w (.cells #[.int .i64 z, .int .i64 D, .int .i64 s, .int .i64 l, .int .i64 a] 23)
  have l1 : w.heap.size < (w.alloc (.cells #[.int .i64 z, .int .i64 D, .int .i64 s, .int .i64 l, .int .i64 a] 23)).heap.size := by simp
  have cE := fun W => entryCount_at z s l a D W h2
  have cR := fun (a : Addr) (c : Nat) (W : World) (hA : SlV W W.heap.size (some a) row41) => repI_at D a c row41 W h1 h2 rfl row41_one hA
  go_enter Try.func60, Try.ntmps60
  go_upto_region 1 with fail
  generalize w.alloc (.cells #[.int .i64 z, .int .i64 D, .int .i64 s, .int .i64 l, .int .i64 a] 23) = w0 at *
  obtain ⟨g0, g1, g2, g3, g4⟩ := id GG
  have HF := Lib.hid (show ∀ W, Below w0.heap.size w0 W → W.cell? ⟨w.heap.size, 0, none⟩ = some (.int .i64 z) ∧ W.cell? ⟨w.heap.size, 1, none⟩ = some (.int .i64 D) ∧ W.cell? ⟨w.heap.size, 2, none⟩ = some (.int .i64 s) ∧ W.cell? ⟨w.heap.size, 3, none⟩ = some (.int .i64 l) ∧ W.cell? ⟨w.heap.size, 4, none⟩ = some (.int .i64 a) ∧ Below w0.heap.size w0 W from fun W h => ⟨kst h l1 g0, kst h l1 g1, kst h l1 g2, kst h l1 g3, kst h l1 g4, h⟩)
  go_region_held3 (fun W => W.cell? ⟨w.heap.size, 0, none⟩ = some (.int .i64 z) ∧ W.cell? ⟨w.heap.size, 1, none⟩ = some (.int .i64 D) ∧ W.cell? ⟨w.heap.size, 2, none⟩ = some (.int .i64 s) ∧ W.cell? ⟨w.heap.size, 3, none⟩ = some (.int .i64 l) ∧ W.cell? ⟨w.heap.size, 4, none⟩ = some (.int .i64 a) ∧ Below w0.heap.size w0 W)
    (first
      | exact HF.out _ (below_dr (Below.refl _ _))
      | exact HF.out _ hbS
      | fail)
    (first
      | (go_at_call 64; (with_reducible refine (cE _).mono ?_); rintro e w2 ⟨rfl, hb2⟩; (try replace sl := sl.next hb2); have hbq : Below w0.heap.size w0 w2 := (by first | exact bt hbS hb2 | exact bt (below_dr (Below.refl w0.heap.size w0)) hb2); (try clear hbS); have hbS := hbq; clear hbq)
      | (go_at_call 62; (with_reducible refine (entrySizes_at _).mono ?_); rintro e w2 ⟨⟨a2, c2, rfl, sl⟩, hb2⟩; have hbq : Below w0.heap.size w0 w2 := (by first | exact bt hbS hb2 | exact bt (below_dr (Below.refl w0.heap.size w0)) hb2); (try clear hbS); have hbS := hbq; clear hbq)
      | (go_at_call 71; (with_reducible refine (cR _ _ _ ?_).mono ?_); (focus exact sl); rintro e w3 ⟨⟨A3, c3, rfl, o3⟩, hb3⟩; have hbR := hbS.size; have hbq : Below w0.heap.size w0 w3 := bt hbS hb3; clear hbS; have hbS := hbq; clear hbq)
      | fail)
  all_goals
    go_wp2_with fail
    go_ret
    exact ⟨⟨_, _, rfl, by
      have h9 := o3
      refine ⟨h9.1, ?_⟩
      rcases h9.2 with k | ⟨g, cap, cur, q1, q2, q3⟩
      · exact .inl k
      · exact .inr ⟨g, cap, cur, q1, by have := hb0.size; omega, q3⟩⟩, bt hb0 hbS⟩
theorem reps_evs (e : Ent) : ∀ q, reps e.vs q = evs (List.replicate q e)
  | 0 => rfl
  | q + 1 => by
    have h := reps_evs e q
    unfold reps evs at *
    rw [List.replicate_succ, List.flatten_cons, h, List.replicate_succ, List.flatMap_cons]
theorem evs_cell (e : Ent) : ∀ u ∈ e.vs, u.oneCell' = true := by
  intro u hu
  simp only [Ent.vs, List.mem_cons, List.not_mem_nil, or_false] at hu
  rcases hu with rfl | rfl | rfl <;> rfl
end Go.Proofs.Ytejfehkcjcohdaa.tbl
