/-
  The document's new table. Conditions: a right geometry.
-/
import Derived.Test.YtldknkikekaifaaTbR
namespace Go.Proofs.Ytldknkikekaifaa.tbl
open Go.RowKit Go.Lib
open Go.Proofs.Ytldknkikekaifaa.gmt (Ok five_new)
open Go.Proofs.Ytldknkikekaifaa.anc (flat_get flat_len slv_cell bl kal kst ks bm ka take_same take_other row_form row_below wpList_row src_home step_row)

def zer8 : List UInt8 := List.replicate 8 0
/-- A new table's entry. -/
def newE : Ent := ⟨0, (crc.sum zer8 : Nat), false⟩
def z8cells : Array Value := madeCells #[.int .u8 0] 8
theorem z8_run (W : World) : (Instr.makeSlice 27 (.int .i64 8) (.int .i64 8)).run Try.prog W = .ok (.slice (some ⟨W.heap.size, 0, none⟩) 8 8) (W.alloc (.cells z8cells 5)) := by
  obtain ⟨ht, _, i, hi, hz, h1, hb8⟩ := t8
  have hr := run_make (P := Try.prog) W 27 5 i (.int .u8 0) ht hi hz .i64 .i64 8 8 (by omega) (by omega) (by rw [hb8]; omega) (by omega)
  simpa [h1, z8cells, Value.cells] using hr
theorem zn_list (n : Nat) : (madeCells #[.int .u8 0] n).toList = cells8 (List.replicate n 0) := by
  unfold madeCells cells8
  apply List.ext_getElem
  · simp
  · intro i h2 h3
    simp [by8, Nat.mod_one]
theorem z8_list : z8cells.toList = cells8 zer8 := zn_list 8
theorem z8_sl (W : World) : Sl (W.alloc (.cells z8cells 5)) (W.alloc (.cells z8cells 5)).heap.size (some ⟨W.heap.size, 0, none⟩) zer8 := Sl.of_block (heap_alloc_new W _) z8_list (by simp)
set_option maxRecDepth 100000 in
set_option maxHeartbeats 4000000 in
theorem rfirst_tab (z d s l a : Int) (w : World) (ho : Ok z d s l a) :
    Calls Try.prog 16 #[.agg #[.int .i64 z, .int .i64 d, .int .i64 s, .int .i64 l, .int .i64 a]] w fun e w' => TbQ w.heap.size (List.replicate (d.toNat + 1) newE) e w' ∧ Below w.heap.size w w' := by
  have o2 := ho.2.1
  obtain ⟨D, rfl⟩ : ∃ D : Nat, d = D := ⟨d.toNat, by omega⟩
  rw [Int.toNat_natCast]
  obtain ⟨N, hN⟩ : ∃ N : Int, N = (crc.sum zer8 : Nat) := ⟨_, rfl⟩
  have HN := Lib.hid hN
  have HE := Lib.hid (show ∀ (W : World) (g : Nat), Sl W W.heap.size (some ⟨g, 0, none⟩) zer8 → Calls Try.prog 36 #[.int .i64 0, .slice (some ⟨g, 0, none⟩) 8 8] W fun e w' => e = .returned (.agg #[.int .i64 0, .int .i64 N, .bool false]) ∧ Below W.heap.size W w' from fun W g h => by
    rw [hN]
    exact rentry_any 0 (some ⟨g, 0, none⟩) 8 8 zer8 W rfl (by unfold maxLen; omega) h)
  clear hN
  have s1 : (w.alloc (.cells #[.int .i64 z, .int .i64 D, .int .i64 s, .int .i64 l, .int .i64 a] 23)).heap.size = w.heap.size + 1 := by simp
  have s2 : ((w.alloc (.cells #[.int .i64 z, .int .i64 D, .int .i64 s, .int .i64 l, .int .i64 a] 23)).alloc (.cells #[.slice none 0 0] 26)).heap.size = w.heap.size + 2 := by simp
  have GG := ((g5_new w z D s l a).keep (bl (w.alloc (.cells #[.int .i64 z, .int .i64 D, .int .i64 s, .int .i64 l, .int .i64 a] 23)) (.cells #[.slice none 0 0] 26)) (by omega)).keep (bl ((w.alloc (.cells #[.int .i64 z, .int .i64 D, .int .i64 s, .int .i64 l, .int .i64 a] 23)).alloc (.cells #[.slice none 0 0] 26)) (.cells #[.slice none 0 0] 26)) (by omega)
  have P := (c1_new (w.alloc (.cells #[.int .i64 z, .int .i64 D, .int .i64 s, .int .i64 l, .int .i64 a] 23)) (.slice none 0 0) 26).keep (bl ((w.alloc (.cells #[.int .i64 z, .int .i64 D, .int .i64 s, .int .i64 l, .int .i64 a] 23)).alloc (.cells #[.slice none 0 0] 26)) (.cells #[.slice none 0 0] 26)) (by omega)
  have Q := c1_new ((w.alloc (.cells #[.int .i64 z, .int .i64 D, .int .i64 s, .int .i64 l, .int .i64 a] 23)).alloc (.cells #[.slice none 0 0] 26)) (.slice none 0 0) 26
  rw [s1] at P
  rw [s2] at Q
  have hb0 := kal (kal (bl w (.cells #[.int .i64 z, .int .i64 D, .int .i64 s, .int .i64 l, .int .i64 a] 23)) (.cells #[.slice none 0 0] 26)) (.cells #[.slice none 0 0] 26)
  have l3 : (((w.alloc (.cells #[.int .i64 z, .int .i64 D, .int .i64 s, .int .i64 l, .int .i64 a] 23)).alloc (.cells #[.slice none 0 0] 26)).alloc (.cells #[.slice none 0 0] 26)).heap.size = w.heap.size + 3 := by simp
  clear s1 s2 ho
  go_enter Try.func16, Try.ntmps16
  go_upto_region 2 with fail
  generalize (((w.alloc (.cells #[.int .i64 z, .int .i64 D, .int .i64 s, .int .i64 l, .int .i64 a] 23)).alloc (.cells #[.slice none 0 0] 26)).alloc (.cells #[.slice none 0 0] 26)) = w0 at *
  have HL3 := Lib.hid l3
  have lz : w.heap.size + 3 ≤ w0.heap.size := by omega
  clear l3
  go_wp2_with fail
  go_loopw [4] (fun i w' => ∃ (k : Nat) (v : Value), k ≤ D + 1 ∧ i = .int .i64 k ∧ OwnE w' (w.heap.size + 3) v (List.replicate k newE) ∧ C1 w' (w.heap.size + 2) v ∧ C1 w' (w.heap.size + 1) (.slice none 0 0) ∧ G5 w' w.heap.size z D s l a ∧ Below w.heap.size w w' ∧ w.heap.size + 3 ≤ w'.heap.size) (fun i _ => D + 1 - (RowKit.intOf i).toNat)
  case atStart => exact ⟨0, .slice none 0 0, by omega, rfl, ownE_nil _ _, Q, P, GG, hb0, lz⟩
  case round =>
    clear P Q GG hb0 lz HL3
    obtain ⟨w5, rfl⟩ : ∃ x, x = wr := ⟨wr, rfl⟩
    obtain ⟨k, v, hk, rfl, hown, Q5, P5, GG, hb5, l5⟩ := hrel
    obtain ⟨-, g1, -, -, -⟩ := id GG
    by_cases hlt : k < D + 1
    · have i1 : (k : Int) ≤ (D : Int) := by omega
      have q0 := Q5.c0
      have hlk : (List.replicate k newE).length = k := List.length_replicate
      have hmk := z8_run
      go_wp2_with fail
      refine wp_region_tail (S := fun W => W.cell? ⟨w.heap.size + 2, 0, none⟩ = some v ∧ Below (w.heap.size + 3) w5 W) 7 rfl (by kernel_rfl) (by kernel_rfl) ⟨q0, below_dr (Below.refl _ _)⟩ (fun hS => ?_)
      simp only [List.take_succ_cons, List.take_zero]
      (refine wpAnyH_take (i := 0) (v := ?_) rfl (by kernel_rfl) (by kernel_rfl) (by kernel_rfl) (fun _ _ _ h => h) (Or.inl ⟨by rfl, ?_⟩) (by assumption) ?_; rotate_left; (focus (intro w hSw; (try dsimp only at hSw); go_split_ands; go_simp <;> with_reducible rfl)); simp only [List.getElem_toArray, List.getElem_cons_zero, Act.put, List.setIfInBounds_toArray, List.set_cons_zero, List.set_cons_succ])
      (refine wpAnyH_take (i := 1) (v := ?_) rfl (by kernel_rfl) (by kernel_rfl) (by kernel_rfl) (fun _ _ _ h => h) (Or.inl ⟨by rfl, ?_⟩) (by assumption) ?_; rotate_left; (focus (intro w hSw; (try dsimp only at hSw); go_split_ands; go_simp <;> with_reducible rfl)); simp only [List.getElem_toArray, List.getElem_cons_zero, List.getElem_cons_succ, Act.put, List.setIfInBounds_toArray, List.set_cons_zero, List.set_cons_succ])
      refine wpAnyH_ready (rs := [2]) (by kernel_rfl) (by simp) ?_
      refine AllReadyH.cons rfl (fun K hK => ?_) AllReadyH.nil
      go_simp
      have b1 : Below w5.heap.size w5 (w5.alloc (.cells z8cells 5)).drew := below_dr (bl w5 _)
      have sl1 : Sl (w5.alloc (.cells z8cells 5)).drew (w5.alloc (.cells z8cells 5)).drew.heap.size (some ⟨w5.heap.size, 0, none⟩) zer8 := (z8_sl w5).next (below_dr (Below.refl _ _))
      refine hK.out _ _ ⟨kst b1 (by omega) q0, b1.mono l5⟩ (fun hS => ?_)
      clear hK K
      generalize (w5.alloc (.cells z8cells 5)).drew = wa at *
      refine wpAnyH_ready (rs := [3]) (by kernel_rfl) (by simp) ?_
      refine AllReadyH.cons rfl (fun K hK => ?_) AllReadyH.nil
      go_simp
      (with_reducible refine (HE.out _ _ sl1).mono ?_)
      rintro e wb ⟨rfl, hbb⟩
      have b2 : Below w5.heap.size w5 wb := bt b1 hbb
      refine hK.out _ _ ⟨kst b2 (by omega) q0, b2.mono l5⟩ (fun hS => ?_)
      clear hK K
      refine wpAnyH_ready (rs := [4]) (by kernel_rfl) (by simp) ?_
      refine AllReadyH.cons rfl (fun K hK => ?_) AllReadyH.nil
      go_simp
      have b3 : Below w5.heap.size w5 (wb.alloc (.cells #[.int .i64 0, .int .i64 N, .bool false] 47)) := kal b2 _
      have src := src_home (P := Try.prog) (heap_alloc_new wb (.cells #[.int .i64 0, .int .i64 N, .bool false] 47)) Try.underlying24 (by simp [Value.oneCell'])
      refine hK.out _ _ ⟨kst b3 (by omega) q0, b3.mono l5⟩ (fun hS => ?_)
      clear hK K
      have ow := hown.below b3
      have l3 := b3.size
      generalize wb.alloc (.cells #[.int .i64 0, .int .i64 N, .bool false] 47) = wc at *
      refine wpAnyH_ready (rs := [5]) (by kernel_rfl) (by simp) ?_
      refine AllReadyH.cons rfl (fun K hK => ?_) AllReadyH.nil
      refine step_row wc (by rfl) _ _ _ _ (by rfl) (w.heap.size + 3) 3 24 47 (.agg #[.int .i64 0, .int .i64 0, .bool false]) Try.underlying24 e_info (by rfl) v k (evs (List.replicate k newE)) (by rfl) (by have h9 := ow; unfold OwnE at h9; rw [hlk] at h9; exact h9) _ 1 _ (by rfl) src (by unfold maxLen; omega) (by omega) (by omega) ?_
      intro v3 w3 h3 hg3
      have b4 : Below (w.heap.size + 3) w5 w3 := (b3.mono l5).grown hg3 (by omega) (fun q hq => (World.ownsRow.lt ow q hq).1)
      refine hK.out _ _ ⟨ks b4 (by omega) q0, b4⟩ (fun hS => ?_)
      clear hK K
      simp only [List.getElem_toArray, List.getElem_cons_zero, List.getElem_cons_succ, Act.put, List.setIfInBounds_toArray, List.set_cons_zero, List.set_cons_succ]
      (refine wpAnyH_take (i := 6) (v := ?_) rfl (by kernel_rfl) (by kernel_rfl) (by kernel_rfl) (fun _ _ _ h => h) (Or.inl ⟨by rfl, ?_⟩) (by assumption) ?_; rotate_left; (focus (intro w hSw; (try dsimp only at hSw); go_split_ands; go_simp <;> with_reducible rfl)); simp only [List.getElem_toArray, List.getElem_cons_zero, List.getElem_cons_succ, Act.put, List.setIfInBounds_toArray, List.set_cons_zero, List.set_cons_succ])
      refine wpAnyH_done (by kernel_rfl) ?_ _
      have Q6 := Q5.keep b4 (by omega)
      have P6 := P5.keep b4 (by omega)
      have G6 := GG.keep b4 (by omega)
      have c6 := Q6.c0
      have f6 := Q6.f0
      obtain ⟨A3, c3, rfl, -, -, -⟩ := row_form h3
      simp only [tailQ]
      go_simp
      have hlk1 : (List.replicate (k + 1) newE).length = k + 1 := List.length_replicate
      have h4 : OwnE w3 (w.heap.size + 3) (.slice A3 (k + 1 : Nat) c3) (List.replicate (k + 1) newE) := by
        unfold OwnE
        rw [hlk1, List.replicate_succ', evs_append]
        have : evs [newE] = [.int .i64 0, .int .i64 N, .bool false] := by rw [HN.out]; rfl
        rw [this]
        exact h3
      have h5 := OwnE.cell_set (o := 0) h4 (show w.heap.size + 2 < w.heap.size + 3 by omega) (.slice A3 (k + 1 : Nat) c3)
      have b5 : Below w.heap.size w (w3.setCell ⟨w.heap.size + 2, 0, none⟩ (.slice A3 (k + 1 : Nat) c3)) := (hb5.trans (b4.mono (by omega))).setCell (p := ⟨w.heap.size + 2, 0, none⟩) (show w.heap.size ≤ w.heap.size + 2 by omega) _
      have hsz := b4.size
      go_wp2
      go_roundw
      case rel => exact ⟨k + 1, _, by omega, by go_num, h5, Q6.set _, P6.apart (by omega) _, G6.set (by omega) _, b5, by simp; omega⟩
      case measure => simp [RowKit.intOf]; omega
    · obtain rfl : k = D + 1 := by omega
      have i1 : ¬ ((D + 1 : Nat) : Int) ≤ (D : Int) := by omega
      have q0 := Q5.c0
      have p0 := P5.c0
      have f0 := P5.f0
      obtain ⟨t, rfl, hte, hto⟩ := ownE_tv hown
      have HTE := Lib.hid hte
      clear hte
      go_wp2_with fail
      have k1 := P5.set (.slice t.A t.es.length t.c)
      exact bodyPost_ret (v := .agg #[.slice t.A t.es.length t.c]) (by simp [results, Try.results16, go_sem, k1.c0]) rfl ⟨⟨t, rfl, HTE.out, OwnE.less (OwnE.cell_set hto (by omega) _) (by omega)⟩, hb5.setCell (p := ⟨w.heap.size + 1, 0, none⟩) (show w.heap.size ≤ w.heap.size + 1 by omega) _⟩
end Go.Proofs.Ytldknkikekaifaa.tbl
