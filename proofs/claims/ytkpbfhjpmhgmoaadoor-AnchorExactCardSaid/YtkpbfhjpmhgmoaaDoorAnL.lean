/-
  anchor.homeOf: a home out of its numbers. Conditions: rows shorter than 2^20.
-/
import Derived.Test.YtkpbfhjpmhgmoaaDoorAnG
import Derived.Test.YtkpbfhjpmhgmoaaDoorAnI
import Derived.Test.YtkpbfhjpmhgmoaaDoorAnJ
namespace Go.Proofs.YtkpbfhjpmhgmoaaDoor.anc
open Go.RowKit Go.Lib
open Go.Proofs.YtkpbfhjpmhgmoaaDoor.gmt (Ok five_new check_ok check_no)

/-- What homeOf answers. -/
def HomeA (base D : Nat) (ps : List Int) (nx rt : Int) (e : Ending) (w' : World) : Prop := ∃ A c, e = .returned (.agg #[.slice A (D + 1) c, .int .i64 nx, .int .i64 rt]) ∧ OwnV w' base 3 (.slice A (D + 1) c) (ints ps)
set_option maxRecDepth 100000 in
set_option maxHeartbeats 4000000 in
theorem homeOf_at (z s l a : Int) (D : Nat) (A : Option Addr) (c : Nat) (ps : List Int) (nx rt : Int) (w : World) (ho : Ok z D s l a) (hps : ps.length = D + 1) (hA : SlV w w.heap.size A (ints (ps ++ [nx, rt]))) (hc : D + 3 ≤ c) :
    Calls Tryd.prog 57 #[.agg #[.int .i64 z, .int .i64 D, .int .i64 s, .int .i64 l, .int .i64 a], .slice A (D + 3) c] w fun e w' => HomeA w.heap.size D ps nx rt e w' ∧ Below w.heap.size w w' := by
  have cP := fun W => placeCount_at z D s l a W ho
  obtain ⟨-, o2, -⟩ := ho
  have GG := (g5_new w z D s l a).keep (bl (w.alloc (.cells #[.int .i64 z, .int .i64 D, .int .i64 s, .int .i64 l, .int .i64 a] 23)) (.cells #[.slice none 0 0, .int .i64 0, .int .i64 0] 54)) (by simp)
  have Q0 := tri_new (w.alloc (.cells #[.int .i64 z, .int .i64 D, .int .i64 s, .int .i64 l, .int .i64 a] 23)) (.slice none 0 0) (.int .i64 0) (.int .i64 0) 54
  have hb0 := kal (bl w (.cells #[.int .i64 z, .int .i64 D, .int .i64 s, .int .i64 l, .int .i64 a] 23)) (.cells #[.slice none 0 0, .int .i64 0, .int .i64 0] 54)
  rw [show (w.alloc (.cells #[.int .i64 z, .int .i64 D, .int .i64 s, .int .i64 l, .int .i64 a] 23)).heap.size = w.heap.size + 1 by simp] at Q0
  have l0 : w.heap.size + 2 ≤ ((w.alloc (.cells #[.int .i64 z, .int .i64 D, .int .i64 s, .int .i64 l, .int .i64 a] 23)).alloc (.cells #[.slice none 0 0, .int .i64 0, .int .i64 0] 54)).heap.size := by simp
  obtain ⟨b, off, rfl, hbb, hcc⟩ := hA (by rw [ints_length, List.length_append]; simp)
  have hlen : (ints (ps ++ [nx, rt])).length = D + 3 := by rw [ints_length, List.length_append, hps]; rfl
  have r1 := hcc (D + 1) (by omega)
  have r2 := hcc (D + 2) (by omega)
  rw [ints_get] at r1 r2
  have e1 : (ps ++ [nx, rt])[D + 1]'(by rw [List.length_append, hps]; simp) = nx := by rw [List.getElem_append_right (by omega)]; simp [hps]
  have e2 : (ps ++ [nx, rt])[D + 2]'(by rw [List.length_append, hps]; simp) = rt := by rw [List.getElem_append_right (by omega)]; simp [hps]
  rw [e1] at r1
  rw [e2] at r2
  have hT : SlV w w.heap.size (some ⟨b, off, none⟩) (ints ps) := by
    have := hA.take (D + 1)
    unfold ints at this ⊢
    rwa [← List.map_take, List.take_left' hps] at this
  have HT := Lib.hid hT
  have HPS := Lib.hid hps
  clear e1 e2 hcc hlen hT hA hps
  go_enter Tryd.func57, Tryd.ntmps57
  go_upto_region 1 with fail
  generalize (w.alloc (.cells #[.int .i64 z, .int .i64 D, .int .i64 s, .int .i64 l, .int .i64 a] 23)).alloc (.cells #[.slice none 0 0, .int .i64 0, .int .i64 0] 54) = w1 at *
  obtain ⟨g0, g1, g2, g3, g4⟩ := id GG
  go_upto_region 2 with (go_at_call 51; (with_reducible refine (cP _).mono ?_); rintro e w2 ⟨rfl, hb2⟩)
  have Q2 := Q0.keep hb2 (by omega)
  have l2 := hb2.size
  have B2 := bt hb0 hb2
  replace r1 := kst B2 hbb r1
  replace r2 := kst B2 hbb r2
  have l02 : w.heap.size + 2 ≤ w2.heap.size := by omega
  clear g0 g1 g2 g3 g4 GG Q0 hb0 hb2 cP l0 l2 w1
  have i1 : (0 : Int) ≤ (D : Int) + 1 := by omega
  have i2 : (D : Int) + 1 ≤ (c : Int) := by omega
  have i3 : (D : Int) + 1 < ((D + 3 : Nat) : Int) := by omega
  have i3' : (D : Int) + 1 < (D : Int) + 3 := by omega
  have i5' : (D : Int) + 1 + 1 < (D : Int) + 3 := by omega
  have i4 : (0 : Int) ≤ (D : Int) + 1 + 1 := by omega
  have i5 : (D : Int) + 1 + 1 < ((D + 3 : Nat) : Int) := by omega
  have i6 : ((D : Int) + 1).toNat = D + 1 := by omega
  have i7 : ((D : Int) + 1 + 1).toNat = D + 2 := by omega
  have i8 : IntKind.i64.wrap ((D : Int) + 1 + 1) = (D : Int) + 1 + 1 := IntWalk.i64_in _ (by omega)
  refine wp_region_tail (S := fun W => W.cell? ⟨b, off + (D + 1), none⟩ = some (.int .i64 nx) ∧ W.cell? ⟨b, off + (D + 2), none⟩ = some (.int .i64 rt) ∧ Below w2.heap.size w2 W) 14 rfl (by kernel_rfl) (by kernel_rfl) ⟨r1, r2, below_dr (Below.refl _ _)⟩ (fun hS => ?_)
  simp only [List.take_succ_cons, List.take_zero]
  (refine wpAnyH_take (i := 0) (v := ?_) rfl (by kernel_rfl) (by kernel_rfl) (by kernel_rfl) (fun _ _ _ h => h) (Or.inl ⟨by rfl, ?_⟩) (by assumption) ?_; rotate_left; (focus (intro w hSw; (try dsimp only at hSw); go_split_ands; go_simp <;> with_reducible rfl)); simp only [List.getElem_toArray, List.getElem_cons_zero, Act.put, List.setIfInBounds_toArray, List.set_cons_zero, List.set_cons_succ])
  (refine wpAnyH_take (i := 1) (v := ?_) rfl (by kernel_rfl) (by kernel_rfl) (by kernel_rfl) (fun _ _ _ h => h) (Or.inl ⟨by rfl, ?_⟩) (by assumption) ?_; rotate_left; (focus (intro w hSw; (try dsimp only at hSw); go_split_ands; go_simp <;> with_reducible rfl)); simp only [List.getElem_toArray, List.getElem_cons_zero, List.getElem_cons_succ, Act.put, List.setIfInBounds_toArray, List.set_cons_zero, List.set_cons_succ])
  (refine wpAnyH_take (i := 2) (v := ?_) rfl (by kernel_rfl) (by kernel_rfl) (by kernel_rfl) (fun _ _ _ h => h) (Or.inl ⟨by rfl, ?_⟩) (by assumption) ?_; rotate_left; (focus (intro w hSw; (try dsimp only at hSw); go_split_ands; go_simp <;> with_reducible rfl)); simp only [List.getElem_toArray, List.getElem_cons_zero, List.getElem_cons_succ, Act.put, List.setIfInBounds_toArray, List.set_cons_zero, List.set_cons_succ])
  (refine wpAnyH_take (i := 4) (v := ?_) rfl (by kernel_rfl) (by kernel_rfl) (by kernel_rfl) (fun _ _ _ h => h) (Or.inl ⟨by rfl, ?_⟩) (by assumption) ?_; rotate_left; (focus (intro w hSw; (try dsimp only at hSw); go_split_ands; go_simp <;> with_reducible rfl)); simp only [List.getElem_toArray, List.getElem_cons_zero, List.getElem_cons_succ, Act.put, List.setIfInBounds_toArray, List.set_cons_zero, List.set_cons_succ])
  (refine wpAnyH_take (i := 5) (v := ?_) rfl (by kernel_rfl) (by kernel_rfl) (by kernel_rfl) (fun _ _ _ h => h) (Or.inl ⟨by rfl, ?_⟩) (by assumption) ?_; rotate_left; (focus (intro w hSw; (try dsimp only at hSw); go_split_ands; go_simp <;> with_reducible rfl)); simp only [List.getElem_toArray, List.getElem_cons_zero, List.getElem_cons_succ, Act.put, List.setIfInBounds_toArray, List.set_cons_zero, List.set_cons_succ])
  (refine wpAnyH_take (i := 6) (v := ?_) rfl (by kernel_rfl) (by kernel_rfl) (by kernel_rfl) (fun _ _ _ h => h) (Or.inl ⟨by rfl, ?_⟩) (by assumption) ?_; rotate_left; (focus (intro w hSw; (try dsimp only at hSw); go_split_ands; go_simp <;> with_reducible rfl)); simp only [List.getElem_toArray, List.getElem_cons_zero, List.getElem_cons_succ, Act.put, List.setIfInBounds_toArray, List.set_cons_zero, List.set_cons_succ])
  (refine wpAnyH_take (i := 7) (v := ?_) rfl (by kernel_rfl) (by kernel_rfl) (by kernel_rfl) (fun _ _ _ h => h) (Or.inl ⟨by rfl, ?_⟩) (by assumption) ?_; rotate_left; (focus (intro w hSw; (try dsimp only at hSw); go_split_ands; go_simp <;> with_reducible rfl)); simp only [List.getElem_toArray, List.getElem_cons_zero, List.getElem_cons_succ, Act.put, List.setIfInBounds_toArray, List.set_cons_zero, List.set_cons_succ])
  (refine wpAnyH_take (i := 8) (v := ?_) rfl (by kernel_rfl) (by kernel_rfl) (by kernel_rfl) (fun _ _ _ h => h) (Or.inl ⟨by rfl, ?_⟩) (by assumption) ?_; rotate_left; (focus (intro w hSw; (try dsimp only at hSw); go_split_ands; go_simp <;> with_reducible rfl)); simp only [List.getElem_toArray, List.getElem_cons_zero, List.getElem_cons_succ, Act.put, List.setIfInBounds_toArray, List.set_cons_zero, List.set_cons_succ])
  (refine wpAnyH_take (i := 9) (v := ?_) rfl (by kernel_rfl) (by kernel_rfl) (by kernel_rfl) (fun _ _ _ h => h) (Or.inl ⟨by rfl, ?_⟩) (by assumption) ?_; rotate_left; (focus (intro w hSw; (try dsimp only at hSw); go_split_ands; go_simp <;> with_reducible rfl)); simp only [List.getElem_toArray, List.getElem_cons_zero, List.getElem_cons_succ, Act.put, List.setIfInBounds_toArray, List.set_cons_zero, List.set_cons_succ])
  (refine wpAnyH_take (i := 10) (v := ?_) rfl (by kernel_rfl) (by kernel_rfl) (by kernel_rfl) (fun _ _ _ h => h) (Or.inl ⟨by rfl, ?_⟩) (by assumption) ?_; rotate_left; (focus (intro w hSw; (try dsimp only at hSw); go_split_ands; go_simp <;> with_reducible rfl)); simp only [List.getElem_toArray, List.getElem_cons_zero, List.getElem_cons_succ, Act.put, List.setIfInBounds_toArray, List.set_cons_zero, List.set_cons_succ])
  (refine wpAnyH_take (i := 11) (v := ?_) rfl (by kernel_rfl) (by kernel_rfl) (by kernel_rfl) (fun _ _ _ h => h) (Or.inl ⟨by rfl, ?_⟩) (by assumption) ?_; rotate_left; (focus (intro w hSw; (try dsimp only at hSw); go_split_ands; go_simp <;> with_reducible rfl)); simp only [List.getElem_toArray, List.getElem_cons_zero, List.getElem_cons_succ, Act.put, List.setIfInBounds_toArray, List.set_cons_zero, List.set_cons_succ])
  (refine wpAnyH_take (i := 12) (v := ?_) rfl (by kernel_rfl) (by kernel_rfl) (by kernel_rfl) (fun _ _ _ h => h) (Or.inl ⟨by rfl, ?_⟩) (by assumption) ?_; rotate_left; (focus (intro w hSw; (try dsimp only at hSw); go_split_ands; go_simp <;> with_reducible rfl)); simp only [List.getElem_toArray, List.getElem_cons_zero, List.getElem_cons_succ, Act.put, List.setIfInBounds_toArray, List.set_cons_zero, List.set_cons_succ])
  refine wpAnyH_ready (rs := [3]) (by kernel_rfl) (by simp) ?_
  refine AllReadyH.cons rfl (fun K hK => ?_) AllReadyH.nil
  go_simp
  (with_reducible refine (cloneI_any _ c w.heap.size (D + 1) ps _ HPS.out (HT.out.below (below_dr B2)) (below_dr B2).size (by omega)).mono ?_)
  rintro e wo ⟨⟨Xo, co, rfl, -, oo⟩, hbo⟩
  have so : Below w2.heap.size w2 wo := bt (below_dr (Below.refl _ _)) hbo
  have lo := so.size
  refine hK.out _ _ ⟨kst so (by omega) r1, kst so (by omega) r2, so⟩ (fun hS => ?_)
  clear hK K
  (refine wpAnyH_take (i := 13) (v := ?_) rfl (by kernel_rfl) (by kernel_rfl) (by kernel_rfl) (fun _ _ _ h => h) (Or.inl ⟨by rfl, ?_⟩) (by assumption) ?_; rotate_left; (focus (intro w hSw; (try dsimp only at hSw); go_split_ands; go_simp <;> with_reducible rfl)); simp only [List.getElem_toArray, List.getElem_cons_zero, List.getElem_cons_succ, Act.put, List.setIfInBounds_toArray, List.set_cons_zero, List.set_cons_succ])
  refine wpAnyH_done (by kernel_rfl) ?_ _
  have Q3 := Q2.keep so (by omega)
  obtain ⟨z0, z1, z2, f0, f1, f2⟩ := id Q3
  simp only [tailQ]
  go_simp
  have k7 := ((Q3.set0 (.slice Xo (D + 1) co)).set1 (.int .i64 nx)).set2 (.int .i64 rt)
  have B3 := bt B2 so
  have h7 : ∀ (W : World) (o : Nat) (v : Value), OwnV W w2.heap.size 3 (.slice Xo (D + 1) co) (ints ps) → OwnV (W.setCell ⟨w.heap.size + 1, o, none⟩ v) w2.heap.size 3 (.slice Xo (D + 1) co) (ints ps) := fun W o v hW => ownsRow_setCell_other hW (fun hk => by have : w2.heap.size ≤ w.heap.size + 1 := (World.ownsRow.lt hW _ hk).1; omega) _
  have hl : w.heap.size ≤ w.heap.size + 1 := by omega
  have ho' := OwnV.less (h7 _ 2 (.int .i64 rt) (h7 _ 1 (.int .i64 nx) (h7 _ 0 (.slice Xo (D + 1) co) oo))) (show w.heap.size ≤ w2.heap.size by omega)
  clear z0 z1 z2 f0 f1 f2 r1 r2
  go_wp2_with fail
  exact bodyPost_ret (v := .agg #[.slice Xo (D + 1) co, .int .i64 nx, .int .i64 rt]) (by simp [results, Tryd.results57, go_sem, k7.c0, k7.c1, k7.c2]) rfl ⟨⟨Xo, co, rfl, ho'⟩, ((B3.setCell hl _).setCell hl _).setCell hl _⟩
end Go.Proofs.YtkpbfhjpmhgmoaaDoor.anc
