/-
  What table bytes are, by the document. Conditions: a right geometry.
-/
import Derived.Test.YtejfehkcjcohdaaTbU
namespace Go.Proofs.Ytejfehkcjcohdaa.tbl
open Go.RowKit Go.Lib
open Go.Proofs.Ytejfehkcjcohdaa.gmt (Ok five_new)
open Go.Proofs.Ytejfehkcjcohdaa.pck (le num le_length ref_get num_one)
open Go.Proofs.Ytejfehkcjcohdaa.anc (flat_get flat_len slv_cell bl kal kst ks bm ka take_same take_other row_form row_below src_home step_row)

/-- A table that is told, and whether it is one. -/
def RdT (base : Nat) (es : List Ent) (c : Bool) (e : Ending) (w' : World) : Prop := ∃ t : TV, e = .returned (.tuple #[t.v, .bool c]) ∧ t.es = es ∧ t.Own w' base
theorem lost_byte {b : List UInt8} {k : Nat} (h : k * 9 + 8 < b.length) : lostAt b k = b[k * 9 + 8].toNat := by
  unfold lostAt
  have hl : ((b.drop (k * 9 + 8)).take 1).length = 1 := by rw [List.length_take, List.length_drop]; omega
  rw [num_one _ hl]
  congr 1
  rw [List.getElem_take, List.getElem_drop]
set_option maxRecDepth 100000 in
set_option maxHeartbeats 4000000 in
theorem rread_tab (c : Bool) (z d s l a : Int) (A : Option Addr) (n cap : Nat) (b : List UInt8) (w : World) (ho : Ok z d s l a) (hn : b.length = n) (hcap : n ≤ cap) (hmax : cap ≤ maxLen) (hA : Sl w w.heap.size A b) (hc : c = true ↔ Told d b) :
    Calls Try.prog 31 #[.agg #[.int .i64 z, .int .i64 d, .int .i64 s, .int .i64 l, .int .i64 a], .slice A n cap] w fun e w' => RdT w.heap.size (if c = true then entsN b (d.toNat + 1) else []) c e w' ∧ Below w.heap.size w w' := by
  have o2 := ho.2.1
  obtain ⟨D, rfl⟩ : ∃ D : Nat, d = D := ⟨d.toNat, by omega⟩
  rw [Int.toNat_natCast]
  have s1 : (w.alloc (.cells #[.int .i64 z, .int .i64 D, .int .i64 s, .int .i64 l, .int .i64 a] 23)).heap.size = w.heap.size + 1 := by simp
  have GG := (g5_new w z D s l a).keep (bl (w.alloc (.cells #[.int .i64 z, .int .i64 D, .int .i64 s, .int .i64 l, .int .i64 a] 23)) (.cells #[.slice none 0 0] 36)) (by omega)
  have P := c1_new (w.alloc (.cells #[.int .i64 z, .int .i64 D, .int .i64 s, .int .i64 l, .int .i64 a] 23)) (.slice none 0 0) 36
  rw [s1] at P
  have hb0 := kal (bl w (.cells #[.int .i64 z, .int .i64 D, .int .i64 s, .int .i64 l, .int .i64 a] 23)) (.cells #[.slice none 0 0] 36)
  have l2 : ((w.alloc (.cells #[.int .i64 z, .int .i64 D, .int .i64 s, .int .i64 l, .int .i64 a] 23)).alloc (.cells #[.slice none 0 0] 36)).heap.size = w.heap.size + 2 := by simp
  have HC := Lib.hid hc
  have HA := Lib.hid hA
  have HNL := Lib.hid hn
  have HO := Lib.hid ho
  clear s1 ho hc hA hn
  go_enter Try.func31, Try.ntmps31
  go_upto_region 1 with fail
  generalize ((w.alloc (.cells #[.int .i64 z, .int .i64 D, .int .i64 s, .int .i64 l, .int .i64 a] 23)).alloc (.cells #[.slice none 0 0] 36)) = w0 at *
  have lz : w.heap.size + 2 ≤ w0.heap.size := by omega
  obtain ⟨-, g1, -, -, -⟩ := id GG
  have i9 : IntKind.i64.wrap (9 * ((D : Int) + 1)) = 9 * ((D : Int) + 1) := IntWalk.i64_in _ (by omega)
  by_cases hln : (n : Int) = 9 * ((D : Int) + 1)
  case neg =>
    have hcf : c = false := by
      cases c with
      | false => rfl
      | true => exact absurd (HC.out.1 rfl).1 (by rw [HNL.out]; exact hln)
    subst hcf
    have i1 : ((n : Int) != 9 * ((D : Int) + 1)) = true := bne_iff_ne.2 hln
    have P5 := P
    have z0 := P.c0
    have f0 := P.f0
    clear hln HC
    go_wp2_with fail
    (try simp only [Exit.inBlock, Exit.then])
    have k1 := P5.set (.slice none 0 0)
    exact bodyPost_ret (v := .tuple #[.agg #[.slice none 0 0], .bool false]) (by simp [results, Try.results31, go_sem, k1.c0]) rfl ⟨⟨noTV, rfl, rfl, noTV_own _ _⟩, hb0.setCell (p := ⟨w.heap.size + 1, 0, none⟩) (show w.heap.size ≤ w.heap.size + 1 by omega) _⟩
  have i1 : ((n : Int) != 9 * ((D : Int) + 1)) = false := by rw [hln]; exact bne_self_eq_false _
  have hl9 : (D + 1) * 9 = n := by omega
  have HLN := Lib.hid hln
  clear hln
  go_upto_region 4 with fail
  have Q := c1_new w0 (.slice none 0 0) 36
  have l3 : (w0.alloc (.cells #[.slice none 0 0] 36)).heap.size = w.heap.size + 3 := by simp [l2]
  have hx := bl w0 (.cells #[.slice none 0 0] 36)
  rw [l2] at Q
  replace P := P.keep hx (by omega)
  replace GG := GG.keep hx (by omega)
  replace hb0 := bt hb0 hx
  clear hx g1 i1 i9 lz l2
  generalize (w0.alloc (.cells #[.slice none 0 0] 36)) = w1 at *
  have lz : w.heap.size + 3 ≤ w1.heap.size := by omega
  clear l3
  go_wp2_with fail
  go_loopw [7] (fun i w' => ∃ (k : Nat) (v : Value), k ≤ D + 1 ∧ i = .int .i64 k ∧ (∀ j, j < k → lostAt b j ≤ 1) ∧ OwnE w' (w.heap.size + 3) v (entsN b k) ∧ C1 w' (w.heap.size + 2) v ∧ C1 w' (w.heap.size + 1) (.slice none 0 0) ∧ G5 w' w.heap.size z D s l a ∧ Below w.heap.size w w' ∧ w.heap.size + 3 ≤ w'.heap.size) (fun i _ => D + 1 - (RowKit.intOf i).toNat)
  case atStart => exact ⟨0, .slice none 0 0, by omega, rfl, fun j hj => absurd hj (by omega), ownE_nil _ _, Q, P, GG, hb0, lz⟩
  case round =>
    clear P Q GG hb0 lz
    obtain ⟨w5, rfl⟩ : ∃ x, x = wr := ⟨wr, rfl⟩
    obtain ⟨k, v, hk, rfl, hlost, hown, Q5, P5, GG, hb5, l5⟩ := hrel
    obtain ⟨-, g1, -, -, -⟩ := id GG
    by_cases hlt : k < D + 1
    · have i1 : (k : Int) ≤ (D : Int) := by omega
      have hAw := HA.out.below hb5
      obtain ⟨bb, off, rfl, hbb, hcb⟩ := id (hAw (by rw [HNL.out]; omega))
      have hkb : k * 9 + 8 < b.length := by rw [HNL.out]; omega
      have c8 := hcb (k * 9 + 8) hkb
      unfold by8 at c8
      rw [← Nat.add_assoc] at c8
      have hlb := lost_byte hkb
      have h255 := b[k * 9 + 8].toNat_lt
      obtain ⟨B8, hB8⟩ : ∃ x, x = b[k * 9 + 8].toNat := ⟨_, rfl⟩
      rw [← hB8] at c8 hlb h255
      have HLB := Lib.hid hlb
      have h9k : 9 * (k : Int) = ((k * 9 : Nat) : Int) := by omega
      have n1 : k * 9 ≤ n := by omega
      have n2 : k * 9 < cap := by omega
      have n3 : (8 : Int) < ((n - k * 9 : Nat) : Int) := by omega
      unfold maxLen at hmax
      clear hlb hB8 hcb
      go_upto_region 8 with fail
      by_cases hb1 : 1 < B8
      · have hcf : c = false := by
          cases c with
          | false => rfl
          | true => exact absurd ((HC.out.1 rfl).2.1 k i1) (by rw [HLB.out]; omega)
        subst hcf
        have j1 : (1 : Int) < (B8 : Int) := by omega
        have p0 := P5.c0
        have f0 := P5.f0
        clear HC hlost hb1
        go_wp2_with fail
        (try simp only [Exit.inBlock, Exit.then])
        have k1 := P5.set (.slice none 0 0)
        exact bodyPost_ret (v := .tuple #[.agg #[.slice none 0 0], .bool false]) (by simp [results, Try.results31, go_sem, k1.c0]) rfl ⟨⟨noTV, rfl, rfl, noTV_own _ _⟩, hb5.setCell (p := ⟨w.heap.size + 1, 0, none⟩) (show w.heap.size ≤ w.heap.size + 1 by omega) _⟩
      have j1 : ¬ (1 : Int) < (B8 : Int) := by omega
      have hlost2 : ∀ j, j < k + 1 → lostAt b j ≤ 1 := fun j hj => by
        rcases Nat.lt_or_ge j k with h | h
        · exact hlost j h
        · obtain rfl : j = k := by omega
          rw [HLB.out]
          omega
      have HL2 := Lib.hid hlost2
      have hsl := (HA.out.below hb5).more hb5.size
      have HG0 := Lib.hid (show ∀ W, Below w5.heap.size w5 W → Calls Try.prog 50 #[.slice (some ⟨bb, off + k * 9, none⟩) (n - k * 9 : Nat) (cap - k * 9), .int .i64 4] W fun e w' => e = .returned (.int .i64 (num ((b.drop (k * 9)).take 4) : Nat)) ∧ W = w' from fun W hW =>
        ref_get 4 (n - k * 9) _ (cap - k * 9) _ (b.drop (k * 9)) W (by omega) (by rw [List.length_drop, HNL.out]) (by omega) ((hsl.below hW).drop (k * 9)))
      have HG4 := Lib.hid (show ∀ W, Below w5.heap.size w5 W → Calls Try.prog 50 #[.slice (some ⟨bb, off + k * 9 + 4, none⟩) (n - k * 9 - 4 : Nat) (cap - k * 9 - 4), .int .i64 4] W fun e w' => e = .returned (.int .i64 (num ((b.drop (k * 9 + 4)).take 4) : Nat)) ∧ W = w' from fun W hW => by
        have h9 := (hsl.below hW).drop (k * 9 + 4)
        rw [← Nat.add_assoc] at h9
        exact ref_get 4 (n - k * 9 - 4) _ (cap - k * 9 - 4) _ (b.drop (k * 9 + 4)) W (by omega) (by rw [List.length_drop, HNL.out]; omega) (by omega) h9)
      have hlk : (entsN b k).length = k := entsN_length b k
      have q0 := Q5.c0
      have n4 : (4 : Int) ≤ ((n - k * 9 : Nat) : Int) := by omega
      have n5 : 4 ≤ n - k * 9 := by omega
      have n6 : 4 ≤ cap - k * 9 := by omega
      have n7 : ¬ cap - k * 9 = 4 := by omega
      have n8 : (4 : Int) ≤ ((cap - k * 9 : Nat) : Int) := by omega
      clear hsl hlost hlost2 hb1 hAw
      go_upto_region 10 with fail
      refine wp_region_tail (S := fun W => W.cell? ⟨w.heap.size + 2, 0, none⟩ = some v ∧ W.cell? ⟨bb, off + k * 9 + 8, none⟩ = some (.int .u8 (B8 : Int)) ∧ Below (w.heap.size + 3) w5 W) 15 rfl (by kernel_rfl) (by kernel_rfl) ⟨q0, c8, below_dr (Below.refl _ _)⟩ (fun hS => ?_)
      simp only [List.take_succ_cons, List.take_zero]
      (refine wpAnyH_take (i := 0) (v := ?_) rfl (by kernel_rfl) (by kernel_rfl) (by kernel_rfl) (fun _ _ _ h => h) (Or.inl ⟨by rfl, ?_⟩) (by assumption) ?_; rotate_left; (focus (intro w hSw; (try dsimp only at hSw); go_split_ands; go_simp <;> with_reducible rfl)); simp only [List.getElem_toArray, List.getElem_cons_zero, Act.put, List.setIfInBounds_toArray, List.set_cons_zero, List.set_cons_succ])
      (refine wpAnyH_take (i := 1) (v := ?_) rfl (by kernel_rfl) (by kernel_rfl) (by kernel_rfl) (fun _ _ _ h => h) (Or.inl ⟨by rfl, ?_⟩) (by assumption) ?_; rotate_left; (focus (intro w hSw; (try dsimp only at hSw); go_split_ands; go_simp <;> with_reducible rfl)); simp only [List.getElem_toArray, List.getElem_cons_zero, List.getElem_cons_succ, Act.put, List.setIfInBounds_toArray, List.set_cons_zero, List.set_cons_succ])
      (refine wpAnyH_take (i := 2) (v := ?_) rfl (by kernel_rfl) (by kernel_rfl) (by kernel_rfl) (fun _ _ _ h => h) (Or.inl ⟨by rfl, ?_⟩) (by assumption) ?_; rotate_left; (focus (intro w hSw; (try dsimp only at hSw); go_split_ands; go_simp <;> with_reducible rfl)); simp only [List.getElem_toArray, List.getElem_cons_zero, List.getElem_cons_succ, Act.put, List.setIfInBounds_toArray, List.set_cons_zero, List.set_cons_succ])
      (refine wpAnyH_take (i := 4) (v := ?_) rfl (by kernel_rfl) (by kernel_rfl) (by kernel_rfl) (fun _ _ _ h => h) (Or.inl ⟨by rfl, ?_⟩) (by assumption) ?_; rotate_left; (focus (intro w hSw; (try dsimp only at hSw); go_split_ands; go_simp <;> with_reducible rfl)); simp only [List.getElem_toArray, List.getElem_cons_zero, List.getElem_cons_succ, Act.put, List.setIfInBounds_toArray, List.set_cons_zero, List.set_cons_succ])
      (refine wpAnyH_take (i := 5) (v := ?_) rfl (by kernel_rfl) (by kernel_rfl) (by kernel_rfl) (fun _ _ _ h => h) (Or.inl ⟨by rfl, ?_⟩) (by assumption) ?_; rotate_left; (focus (intro w hSw; (try dsimp only at hSw); go_split_ands; go_simp <;> with_reducible rfl)); simp only [List.getElem_toArray, List.getElem_cons_zero, List.getElem_cons_succ, Act.put, List.setIfInBounds_toArray, List.set_cons_zero, List.set_cons_succ])
      (refine wpAnyH_take (i := 7) (v := ?_) rfl (by kernel_rfl) (by kernel_rfl) (by kernel_rfl) (fun _ _ _ h => h) (Or.inl ⟨by rfl, ?_⟩) (by assumption) ?_; rotate_left; (focus (intro w hSw; (try dsimp only at hSw); go_split_ands; go_simp <;> with_reducible rfl)); simp only [List.getElem_toArray, List.getElem_cons_zero, List.getElem_cons_succ, Act.put, List.setIfInBounds_toArray, List.set_cons_zero, List.set_cons_succ])
      (refine wpAnyH_take (i := 8) (v := ?_) rfl (by kernel_rfl) (by kernel_rfl) (by kernel_rfl) (fun _ _ _ h => h) (Or.inl ⟨by rfl, ?_⟩) (by assumption) ?_; rotate_left; (focus (intro w hSw; (try dsimp only at hSw); go_split_ands; go_simp <;> with_reducible rfl)); simp only [List.getElem_toArray, List.getElem_cons_zero, List.getElem_cons_succ, Act.put, List.setIfInBounds_toArray, List.set_cons_zero, List.set_cons_succ])
      (refine wpAnyH_take (i := 9) (v := ?_) rfl (by kernel_rfl) (by kernel_rfl) (by kernel_rfl) (fun _ _ _ h => h) (Or.inl ⟨by rfl, ?_⟩) (by assumption) ?_; rotate_left; (focus (intro w hSw; (try dsimp only at hSw); go_split_ands; go_simp <;> with_reducible rfl)); simp only [List.getElem_toArray, List.getElem_cons_zero, List.getElem_cons_succ, Act.put, List.setIfInBounds_toArray, List.set_cons_zero, List.set_cons_succ])
      (refine wpAnyH_take (i := 10) (v := ?_) rfl (by kernel_rfl) (by kernel_rfl) (by kernel_rfl) (fun _ _ _ h => h) (Or.inl ⟨by rfl, ?_⟩) (by assumption) ?_; rotate_left; (focus (intro w hSw; (try dsimp only at hSw); go_split_ands; go_simp <;> with_reducible rfl)); simp only [List.getElem_toArray, List.getElem_cons_zero, List.getElem_cons_succ, Act.put, List.setIfInBounds_toArray, List.set_cons_zero, List.set_cons_succ])
      refine wpAnyH_ready (rs := [3]) (by kernel_rfl) (by simp) ?_
      refine AllReadyH.cons rfl (fun K hK => ?_) AllReadyH.nil
      go_simp
      (with_reducible refine (HG0.out _ (below_dr (Below.refl _ _))).mono ?_)
      rintro e wq ⟨rfl, rfl⟩
      refine hK.out _ _ ⟨q0, c8, below_dr (Below.refl _ _)⟩ (fun hS => ?_)
      clear hK K
      refine wpAnyH_ready (rs := [6]) (by kernel_rfl) (by simp) ?_
      refine AllReadyH.cons rfl (fun K hK => ?_) AllReadyH.nil
      go_simp
      (with_reducible refine (HG4.out _ (below_dr (Below.refl _ _))).mono ?_)
      rintro e wq ⟨rfl, rfl⟩
      refine hK.out _ _ ⟨q0, c8, below_dr (Below.refl _ _)⟩ (fun hS => ?_)
      clear hK K
      (refine wpAnyH_take (i := 11) (v := ?_) rfl (by kernel_rfl) (by kernel_rfl) (by kernel_rfl) (fun _ _ _ h => h) (Or.inl ⟨by rfl, ?_⟩) (by assumption) ?_; rotate_left; (focus (intro w hSw; (try dsimp only at hSw); go_split_ands; go_simp <;> with_reducible rfl)); simp only [List.getElem_toArray, List.getElem_cons_zero, List.getElem_cons_succ, Act.put, List.setIfInBounds_toArray, List.set_cons_zero, List.set_cons_succ])
      refine wpAnyH_ready (rs := [12]) (by kernel_rfl) (by simp) ?_
      refine AllReadyH.cons rfl (fun K hK => ?_) AllReadyH.nil
      go_simp
      have b3 : Below w5.heap.size w5 (w5.alloc (.cells #[.int .i64 (num ((b.drop (k * 9)).take 4) : Nat), .int .i64 (num ((b.drop (k * 9 + 4)).take 4) : Nat), .bool ((B8 : Int) == 1)] 29)).drew := below_dr (bl w5 _)
      have src := src_home (P := Try.prog) (w := (w5.alloc (.cells #[.int .i64 (num ((b.drop (k * 9)).take 4) : Nat), .int .i64 (num ((b.drop (k * 9 + 4)).take 4) : Nat), .bool ((B8 : Int) == 1)] 29)).drew) (heap_alloc_new w5 (.cells #[.int .i64 (num ((b.drop (k * 9)).take 4) : Nat), .int .i64 (num ((b.drop (k * 9 + 4)).take 4) : Nat), .bool ((B8 : Int) == 1)] 29)) Try.underlying34 (by simp [Value.oneCell'])
      have lbb : bb < w5.heap.size := by have := hb5.size; omega
      refine hK.out _ _ ⟨kst b3 (by omega) q0, kst b3 lbb c8, b3.mono l5⟩ (fun hS => ?_)
      clear hK K
      have ow := hown.below b3
      have l3 := b3.size
      generalize (w5.alloc (.cells #[.int .i64 (num ((b.drop (k * 9)).take 4) : Nat), .int .i64 (num ((b.drop (k * 9 + 4)).take 4) : Nat), .bool ((B8 : Int) == 1)] 29)).drew = wc at *
      refine wpAnyH_ready (rs := [13]) (by kernel_rfl) (by simp) ?_
      refine AllReadyH.cons rfl (fun K hK => ?_) AllReadyH.nil
      refine step_row wc (by rfl) _ _ _ _ (by rfl) (w.heap.size + 3) 3 24 29 (.agg #[.int .i64 0, .int .i64 0, .bool false]) Try.underlying34 e_info (by rfl) v k (evs (entsN b k)) (by rfl) (by have h9 := ow; unfold OwnE at h9; rw [hlk] at h9; exact h9) _ 1 _ (by rfl) src (by unfold maxLen; omega) (by omega) (by omega) ?_
      intro v3 w3 h3 hg3
      have b4 : Below (w.heap.size + 3) w5 w3 := (b3.mono l5).grown hg3 (by omega) (fun q hq => (World.ownsRow.lt ow q hq).1)
      refine hK.out _ _ ⟨ks b4 (by omega) q0, ks b4 (by omega) c8, b4⟩ (fun hS => ?_)
      clear hK K
      simp only [List.getElem_toArray, List.getElem_cons_zero, List.getElem_cons_succ, Act.put, List.setIfInBounds_toArray, List.set_cons_zero, List.set_cons_succ]
      (refine wpAnyH_take (i := 14) (v := ?_) rfl (by kernel_rfl) (by kernel_rfl) (by kernel_rfl) (fun _ _ _ h => h) (Or.inl ⟨by rfl, ?_⟩) (by assumption) ?_; rotate_left; (focus (intro w hSw; (try dsimp only at hSw); go_split_ands; go_simp <;> with_reducible rfl)); simp only [List.getElem_toArray, List.getElem_cons_zero, List.getElem_cons_succ, Act.put, List.setIfInBounds_toArray, List.set_cons_zero, List.set_cons_succ])
      refine wpAnyH_done (by kernel_rfl) ?_ _
      have Q6 := Q5.keep b4 (by omega)
      have P6 := P5.keep b4 (by omega)
      have G6 := GG.keep b4 (by omega)
      have c6 := Q6.c0
      have f6 := Q6.f0
      obtain ⟨A3, c3, rfl, -, -, -⟩ := row_form h3
      simp only [tailQ]
      go_simp
      have hlk1 : (entsN b (k + 1)).length = k + 1 := entsN_length b (k + 1)
      have h4 : OwnE w3 (w.heap.size + 3) (.slice A3 (k + 1 : Nat) c3) (entsN b (k + 1)) := by
        unfold OwnE
        rw [hlk1, entsN_next, evs_append]
        have e8 : num (((b.drop (k * 9)).drop 8).take 1) = B8 := by rw [List.drop_drop]; exact HLB.out
        have e9 : ((B8 : Int) == 1) = (B8 == 1) := by
          rw [Bool.eq_iff_iff, beq_iff_eq, beq_iff_eq]
          omega
        have : evs [entN (b.drop (k * 9))] = [.int .i64 (num ((b.drop (k * 9)).take 4) : Nat), .int .i64 (num ((b.drop (k * 9 + 4)).take 4) : Nat), .bool ((B8 : Int) == 1)] := by
          show [Value.int .i64 (num ((b.drop (k * 9)).take 4) : Nat), Value.int .i64 (num (((b.drop (k * 9)).drop 4).take 4) : Nat), Value.bool (num (((b.drop (k * 9)).drop 8).take 1) == 1)] = _
          rw [e8, e9, List.drop_drop]
        rw [this]
        exact h3
      have h5 := OwnE.cell_set (o := 0) h4 (show w.heap.size + 2 < w.heap.size + 3 by omega) (.slice A3 (k + 1 : Nat) c3)
      have b5 : Below w.heap.size w (w3.setCell ⟨w.heap.size + 2, 0, none⟩ (.slice A3 (k + 1 : Nat) c3)) := (hb5.trans (b4.mono (by omega))).setCell (p := ⟨w.heap.size + 2, 0, none⟩) (show w.heap.size ≤ w.heap.size + 2 by omega) _
      have hsz := b4.size
      go_wp2
      go_roundw
      case rel => exact ⟨k + 1, _, by omega, by go_num, HL2.out, h5, Q6.set _, P6.apart (by omega) _, G6.set (by omega) _, b5, by simp; omega⟩
      case measure => simp [RowKit.intOf]; omega
    · obtain rfl : k = D + 1 := by omega
      have i1 : ¬ ((D + 1 : Nat) : Int) ≤ (D : Int) := by omega
      obtain ⟨g0, -, g2, g3, g4⟩ := id GG
      have q0 := Q5.c0
      obtain ⟨t, rfl, hte, hto⟩ := ownE_tv hown
      have HTE := Lib.hid hte
      have HTO := Lib.hid hto
      have hti := TV.Own.inn hto
      have hcg : c = true ↔ Good (D : Int) t.es := by
        rw [hte]
        refine ⟨fun h => by have := (HC.out.1 h).2.2; rwa [Int.toNat_natCast] at this, fun h => HC.out.2 ⟨by rw [HNL.out]; exact HLN.out, fun j hj => hlost j (by omega), by rw [Int.toNat_natCast]; exact h⟩⟩
      have HR := Lib.hid (rtable_any c z D s l a t w5 HO.out hti (by rw [hte, entsN_length]; omega) hcg)
      unfold TV.v at HR
      clear hte hto hti hcg hown hlost HC
      cases c
      · go_wp2_with (go_at_call 22; (with_reducible refine HR.out.mono ?_); rintro e' w6 ⟨rfl, hb6⟩; have q6 := kst hb6 (by omega) q0; have P6 := P5.keep hb6 (by omega); have p0 := P6.c0; have f0 := P6.f0; clear g0 g1 g2 g3 g4 q0)
        have k1 := P6.set (.slice none 0 0)
        exact bodyPost_ret (v := .tuple #[.agg #[.slice none 0 0], .bool false]) (by simp [results, Try.results31, go_sem, k1.c0]) rfl ⟨⟨noTV, rfl, rfl, noTV_own _ _⟩, (bt hb5 hb6).setCell (p := ⟨w.heap.size + 1, 0, none⟩) (show w.heap.size ≤ w.heap.size + 1 by omega) _⟩
      · go_wp2_with (go_at_call 22; (with_reducible refine HR.out.mono ?_); rintro e' w6 ⟨rfl, hb6⟩; have q6 := kst hb6 (by omega) q0; have P6 := P5.keep hb6 (by omega); have p0 := P6.c0; have f0 := P6.f0; clear g0 g1 g2 g3 g4 q0)
        have k1 := P6.set (.slice t.A t.es.length t.c)
        have HTO6 := OwnE.below HTO.out hb6
        exact bodyPost_ret (v := .tuple #[.agg #[.slice t.A t.es.length t.c], .bool true]) (by simp [results, Try.results31, go_sem, k1.c0]) rfl ⟨⟨t, rfl, HTE.out, OwnE.less (OwnE.cell_set HTO6 (by omega) _) (by omega)⟩, (bt hb5 hb6).setCell (p := ⟨w.heap.size + 1, 0, none⟩) (show w.heap.size ≤ w.heap.size + 1 by omega) _⟩
end Go.Proofs.Ytejfehkcjcohdaa.tbl
