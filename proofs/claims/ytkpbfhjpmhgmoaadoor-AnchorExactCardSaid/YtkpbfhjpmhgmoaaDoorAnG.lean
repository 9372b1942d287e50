/-
  anchor.First: a new volume's anchor, by its contract. Conditions: what label.Check and strings.Clone answer is given.
-/
import Derived.Test.YtkpbfhjpmhgmoaaDoorAnE
namespace Go.Proofs.YtkpbfhjpmhgmoaaDoor.anc
open Go.RowKit Go.Lib
open Go.Proofs.YtkpbfhjpmhgmoaaDoor.gmt (Ok five_new check_ok check_no)

/-- No anchor. -/
def noAV : AV := ⟨0, 0, 0, 0, 0, ⟨#[]⟩, none, 0, []⟩
theorem noAV_own (w : World) (base : Nat) : noAV.Own w base := ownH_nil w base
theorem noAV_d : noAV.d = noAnc := rfl
/-- What an anchor's maker answers: an anchor of one's own, and an error's number. -/
def AnsA (base : Nat) (x : Anc) (n : Int) (e : Ending) (w' : World) : Prop := ∃ y : AV, e = .returned (.tuple #[y.v, .int .i64 n]) ∧ y.d = x ∧ y.Own w' base

set_option maxRecDepth 100000 in
set_option maxHeartbeats 4000000 in
theorem first_no (Z D s l a : Int) (lab : ByteArray) (w : World) (ho : ¬ Ok Z D s l a) :
    Calls Tryd.prog 11 #[.agg #[.int .i64 Z, .int .i64 D, .int .i64 s, .int .i64 l, .int .i64 a], .string lab] w fun e w' => AnsA w.heap.size noAnc 1 e w' ∧ Below w.heap.size w w' := by
  have cG := fun W => check_no Z D s l a W ho
  have GG := g5_new w Z D s l a
  have B0 := bl w (.cells #[.int .i64 Z, .int .i64 D, .int .i64 s, .int .i64 l, .int .i64 a] 23)
  have L0 : (w.alloc (.cells #[.int .i64 Z, .int .i64 D, .int .i64 s, .int .i64 l, .int .i64 a] 23)).heap.size = w.heap.size + 1 := by simp
  have GG1 := GG.keep (bl (w.alloc (.cells #[.int .i64 Z, .int .i64 D, .int .i64 s, .int .i64 l, .int .i64 a] 23)) (.cells #[.int .i64 0, .int .i64 0, .int .i64 0, .int .i64 0, .int .i64 0, .string ⟨#[]⟩, .slice none 0 0] 26)) (by omega)
  have Q0 := sev_new (w.alloc (.cells #[.int .i64 Z, .int .i64 D, .int .i64 s, .int .i64 l, .int .i64 a] 23)) (.int .i64 0) (.int .i64 0) (.int .i64 0) (.int .i64 0) (.int .i64 0) (.string ⟨#[]⟩) (.slice none 0 0) 26
  have B1 := kal B0 (.cells #[.int .i64 0, .int .i64 0, .int .i64 0, .int .i64 0, .int .i64 0, .string ⟨#[]⟩, .slice none 0 0] 26)
  have L1 : ((w.alloc (.cells #[.int .i64 Z, .int .i64 D, .int .i64 s, .int .i64 l, .int .i64 a] 23)).alloc (.cells #[.int .i64 0, .int .i64 0, .int .i64 0, .int .i64 0, .int .i64 0, .string ⟨#[]⟩, .slice none 0 0] 26)).heap.size = w.heap.size + 2 := by simp
  rw [L0] at Q0
  have lw1 : w.heap.size + 2 ≤ ((w.alloc (.cells #[.int .i64 Z, .int .i64 D, .int .i64 s, .int .i64 l, .int .i64 a] 23)).alloc (.cells #[.int .i64 0, .int .i64 0, .int .i64 0, .int .i64 0, .int .i64 0, .string ⟨#[]⟩, .slice none 0 0] 26)).heap.size := by omega
  clear GG B0 L0 L1
  go_enter Tryd.func11, Tryd.ntmps11
  go_upto_region 1 with fail
  generalize (w.alloc (.cells #[.int .i64 Z, .int .i64 D, .int .i64 s, .int .i64 l, .int .i64 a] 23)).alloc (.cells #[.int .i64 0, .int .i64 0, .int .i64 0, .int .i64 0, .int .i64 0, .string ⟨#[]⟩, .slice none 0 0] 26) = w1 at *
  obtain ⟨g0, g1, g2, g3, g4⟩ := id GG1
  go_upto_region 2 with (go_at_call 28; (with_reducible refine (cG _).mono ?_); rintro e w2 ⟨rfl, hb2⟩)
  have Q := Q0.keep hb2 (by omega)
  obtain ⟨z0, z1, z2, z3, z4, z5, z6, f0, f1, f2, f3, f4, f5, f6⟩ := id Q
  have B2 := bt B1 hb2
  clear g0 g1 g2 g3 g4 GG1 Q0 B1 hb2
  go_wp2_with fail
  have k7 := (((((((Q.set0 (.int .i64 0)).set1 (.int .i64 0)).set2 (.int .i64 0)).set3 (.int .i64 0)).set4 (.int .i64 0)).set5 (.string ⟨#[]⟩)).set6 (.slice none 0 0))
  have hl : w.heap.size ≤ w.heap.size + 1 := by omega
  exact bodyPost_ret (v := .tuple #[.agg #[.int .i64 0, .int .i64 0, .int .i64 0, .int .i64 0, .int .i64 0, .string ⟨#[]⟩, .slice none 0 0], .int .i64 1]) (by simp [results, Tryd.results11, go_sem, k7.c0, k7.c1, k7.c2, k7.c3, k7.c4, k7.c5, k7.c6]) rfl ⟨⟨noAV, rfl, rfl, noAV_own _ _⟩, (((((((B2.setCell hl _).setCell hl _).setCell hl _).setCell hl _).setCell hl _).setCell hl _).setCell hl _)⟩

set_option maxRecDepth 100000 in
set_option maxHeartbeats 4000000 in
theorem first_lab (Z D s l a E : Int) (lab : ByteArray) (w : World) (ho : Ok Z D s l a) (hE : E ≠ 0)
    (cL : ∀ W, Below w.heap.size w W → Calls Tryd.prog 29 #[.string lab] W fun e w' => e = .returned (.int .i64 E) ∧ Below W.heap.size W w') :
    Calls Tryd.prog 11 #[.agg #[.int .i64 Z, .int .i64 D, .int .i64 s, .int .i64 l, .int .i64 a], .string lab] w fun e w' => AnsA w.heap.size noAnc E e w' ∧ Below w.heap.size w w' := by
  have cG := fun W => check_ok Z D s l a W ho
  have q1 : (E != 0) = true := bne_iff_ne.2 hE
  clear hE
  have GG := g5_new w Z D s l a
  have B0 := bl w (.cells #[.int .i64 Z, .int .i64 D, .int .i64 s, .int .i64 l, .int .i64 a] 23)
  have L0 : (w.alloc (.cells #[.int .i64 Z, .int .i64 D, .int .i64 s, .int .i64 l, .int .i64 a] 23)).heap.size = w.heap.size + 1 := by simp
  have GG1 := GG.keep (bl (w.alloc (.cells #[.int .i64 Z, .int .i64 D, .int .i64 s, .int .i64 l, .int .i64 a] 23)) (.cells #[.int .i64 0, .int .i64 0, .int .i64 0, .int .i64 0, .int .i64 0, .string ⟨#[]⟩, .slice none 0 0] 26)) (by omega)
  have Q0 := sev_new (w.alloc (.cells #[.int .i64 Z, .int .i64 D, .int .i64 s, .int .i64 l, .int .i64 a] 23)) (.int .i64 0) (.int .i64 0) (.int .i64 0) (.int .i64 0) (.int .i64 0) (.string ⟨#[]⟩) (.slice none 0 0) 26
  have B1 := kal B0 (.cells #[.int .i64 0, .int .i64 0, .int .i64 0, .int .i64 0, .int .i64 0, .string ⟨#[]⟩, .slice none 0 0] 26)
  have L1 : ((w.alloc (.cells #[.int .i64 Z, .int .i64 D, .int .i64 s, .int .i64 l, .int .i64 a] 23)).alloc (.cells #[.int .i64 0, .int .i64 0, .int .i64 0, .int .i64 0, .int .i64 0, .string ⟨#[]⟩, .slice none 0 0] 26)).heap.size = w.heap.size + 2 := by simp
  rw [L0] at Q0
  have lw1 : w.heap.size + 2 ≤ ((w.alloc (.cells #[.int .i64 Z, .int .i64 D, .int .i64 s, .int .i64 l, .int .i64 a] 23)).alloc (.cells #[.int .i64 0, .int .i64 0, .int .i64 0, .int .i64 0, .int .i64 0, .string ⟨#[]⟩, .slice none 0 0] 26)).heap.size := by omega
  clear GG B0 L0 L1
  go_enter Tryd.func11, Tryd.ntmps11
  go_upto_region 1 with fail
  generalize (w.alloc (.cells #[.int .i64 Z, .int .i64 D, .int .i64 s, .int .i64 l, .int .i64 a] 23)).alloc (.cells #[.int .i64 0, .int .i64 0, .int .i64 0, .int .i64 0, .int .i64 0, .string ⟨#[]⟩, .slice none 0 0] 26) = w1 at *
  obtain ⟨g0, g1, g2, g3, g4⟩ := id GG1
  go_upto_region 5 with (first
    | (go_at_call 28; (with_reducible refine (cG _).mono ?_); rintro e w2 ⟨rfl, hb2⟩; have B2 := bt B1 hb2)
    | (go_at_call 29; (with_reducible refine (cL _ B2).mono ?_); rintro e w3 ⟨rfl, hb3⟩))
  have Q := (Q0.keep hb2 (by omega)).keep hb3 (by have := hb2.size; omega)
  obtain ⟨z0, z1, z2, z3, z4, z5, z6, f0, f1, f2, f3, f4, f5, f6⟩ := id Q
  have B3 := bt B2 hb3
  clear g0 g1 g2 g3 g4 GG1 Q0 B1 hb2 B2 hb3
  go_wp2_with fail
  have k7 := (((((((Q.set0 (.int .i64 0)).set1 (.int .i64 0)).set2 (.int .i64 0)).set3 (.int .i64 0)).set4 (.int .i64 0)).set5 (.string ⟨#[]⟩)).set6 (.slice none 0 0))
  have hl : w.heap.size ≤ w.heap.size + 1 := by omega
  exact bodyPost_ret (v := .tuple #[.agg #[.int .i64 0, .int .i64 0, .int .i64 0, .int .i64 0, .int .i64 0, .string ⟨#[]⟩, .slice none 0 0], .int .i64 E]) (by simp [results, Tryd.results11, go_sem, k7.c0, k7.c1, k7.c2, k7.c3, k7.c4, k7.c5, k7.c6]) rfl ⟨⟨noAV, rfl, rfl, noAV_own _ _⟩, (((((((B3.setCell hl _).setCell hl _).setCell hl _).setCell hl _).setCell hl _).setCell hl _).setCell hl _)⟩

set_option maxRecDepth 100000 in
set_option maxHeartbeats 8000000 in
theorem first_ok (Z D : Nat) (s l a : Int) (lab : ByteArray) (w : World) (ho : Ok Z D s l a)
    (cL : ∀ W, Below w.heap.size w W → Calls Tryd.prog 29 #[.string lab] W fun e w' => e = .returned (.int .i64 0) ∧ Below W.heap.size W w')
    (cS : ∀ W, Calls Tryd.prog 30 #[.string lab] W fun e w' => e = .returned (.string lab) ∧ Below W.heap.size W w') :
    Calls Tryd.prog 11 #[.agg #[.int .i64 Z, .int .i64 D, .int .i64 s, .int .i64 l, .int .i64 a], .string lab] w fun e w' => AnsA w.heap.size (firstA Z D lab) 0 e w' ∧ Below w.heap.size w w' := by
  have cG := fun W => check_ok Z D s l a W ho
  have cH := fun W => firstHome_at Z D s l a W ho
  obtain ⟨o1, o2, -, -, -⟩ := ho
  have GG := g5_new w Z D s l a
  have B0 := bl w (.cells #[.int .i64 Z, .int .i64 D, .int .i64 s, .int .i64 l, .int .i64 a] 23)
  have L0 : (w.alloc (.cells #[.int .i64 Z, .int .i64 D, .int .i64 s, .int .i64 l, .int .i64 a] 23)).heap.size = w.heap.size + 1 := by simp
  have GG1 := GG.keep (bl (w.alloc (.cells #[.int .i64 Z, .int .i64 D, .int .i64 s, .int .i64 l, .int .i64 a] 23)) (.cells #[.int .i64 0, .int .i64 0, .int .i64 0, .int .i64 0, .int .i64 0, .string ⟨#[]⟩, .slice none 0 0] 26)) (by omega)
  have Q0 := sev_new (w.alloc (.cells #[.int .i64 Z, .int .i64 D, .int .i64 s, .int .i64 l, .int .i64 a] 23)) (.int .i64 0) (.int .i64 0) (.int .i64 0) (.int .i64 0) (.int .i64 0) (.string ⟨#[]⟩) (.slice none 0 0) 26
  have B1 := kal B0 (.cells #[.int .i64 0, .int .i64 0, .int .i64 0, .int .i64 0, .int .i64 0, .string ⟨#[]⟩, .slice none 0 0] 26)
  have L1 : ((w.alloc (.cells #[.int .i64 Z, .int .i64 D, .int .i64 s, .int .i64 l, .int .i64 a] 23)).alloc (.cells #[.int .i64 0, .int .i64 0, .int .i64 0, .int .i64 0, .int .i64 0, .string ⟨#[]⟩, .slice none 0 0] 26)).heap.size = w.heap.size + 2 := by simp
  rw [L0] at Q0
  have lw1 : w.heap.size + 2 ≤ ((w.alloc (.cells #[.int .i64 Z, .int .i64 D, .int .i64 s, .int .i64 l, .int .i64 a] 23)).alloc (.cells #[.int .i64 0, .int .i64 0, .int .i64 0, .int .i64 0, .int .i64 0, .string ⟨#[]⟩, .slice none 0 0] 26)).heap.size := by omega
  clear GG B0 L0 L1
  go_enter Tryd.func11, Tryd.ntmps11
  go_upto_region 1 with fail
  generalize (w.alloc (.cells #[.int .i64 Z, .int .i64 D, .int .i64 s, .int .i64 l, .int .i64 a] 23)).alloc (.cells #[.int .i64 0, .int .i64 0, .int .i64 0, .int .i64 0, .int .i64 0, .string ⟨#[]⟩, .slice none 0 0] 26) = w1 at *
  obtain ⟨g0, g1, g2, g3, g4⟩ := id GG1
  go_upto_region 8 with (first
    | (go_at_call 28; (with_reducible refine (cG _).mono ?_); rintro e w2 ⟨rfl, hb2⟩; have B2 := bt B1 hb2)
    | (go_at_call 29; (with_reducible refine (cL _ B2).mono ?_); rintro e w3 ⟨rfl, hb3⟩)
    | (go_at_call 30; (with_reducible refine (cS _).mono ?_); rintro e w4 ⟨rfl, hb4⟩))
  have l2 := hb2.size
  have l3 := hb3.size
  have l4 := hb4.size
  have hx := bl w4 (.cells #[.int .i64 1, .int .i64 0, .int .i64 0, .int .i64 1, .int .i64 0, .string lab, .slice none 0 0] 26)
  have P0 := sev_new w4 (.int .i64 1) (.int .i64 0) (.int .i64 0) (.int .i64 1) (.int .i64 0) (.string lab) (.slice none 0 0) 26
  have Q := (((Q0.keep hb2 (by omega)).keep hb3 (by omega)).keep hb4 (by omega)).keep hx (by omega)
  have GG := (((GG1.keep hb2 (by omega)).keep hb3 (by omega)).keep hb4 (by omega)).keep hx (by omega)
  have B5 := bt (bt (bt B2 hb3) hb4) hx
  have l5 : (w4.alloc (.cells #[.int .i64 1, .int .i64 0, .int .i64 0, .int .i64 1, .int .i64 0, .string lab, .slice none 0 0] 26)).heap.size = w4.heap.size + 1 := by simp
  obtain ⟨ga, hga⟩ : ∃ g, g = w4.heap.size := ⟨_, rfl⟩
  have lga : w.heap.size + 2 ≤ ga := by omega
  have lw5 : ga + 1 ≤ (w4.alloc (.cells #[.int .i64 1, .int .i64 0, .int .i64 0, .int .i64 1, .int .i64 0, .string lab, .slice none 0 0] 26)).heap.size := by omega
  rw [← hga] at P0 ⊢
  clear g0 g1 g2 g3 g4 GG1 Q0 B1 hb2 B2 hb3 hb4 l2 l3 l4 l5 lw1 hx cG cL cS hga
  generalize w4.alloc (.cells #[.int .i64 1, .int .i64 0, .int .i64 0, .int .i64 1, .int .i64 0, .string lab, .slice none 0 0] 26) = w5 at *
  obtain ⟨g0, g1, g2, g3, g4⟩ := id GG
  go_wp2_with fail
  clear g0 g1 g2 g3 g4
  go_loopw [26] (fun i w' => ∃ (k : Nat) (rs : List HomR) (v : Value), k ≤ Z ∧ i = .int .i64 k ∧ hds rs = List.replicate k (newH D) ∧ OwnH w' (ga + 1) v rs ∧ Sev w' ga (.int .i64 1) (.int .i64 0) (.int .i64 0) (.int .i64 1) (.int .i64 0) (.string lab) v ∧ Sev w' (w.heap.size + 1) (.int .i64 0) (.int .i64 0) (.int .i64 0) (.int .i64 0) (.int .i64 0) (.string ⟨#[]⟩) (.slice none 0 0) ∧ G5 w' w.heap.size Z D s l a ∧ Below w.heap.size w w' ∧ ga + 1 ≤ w'.heap.size) (fun i _ => Z - (RowKit.intOf i).toNat)
  case atStart => exact ⟨0, [], .slice none 0 0, by omega, rfl, rfl, ownH_nil _ _, P0, Q, GG, B5, by omega⟩
  case round =>
    clear P0 Q GG B5 lw5 w5
    obtain ⟨w5, rfl⟩ : ∃ x, x = wr := ⟨wr, rfl⟩
    obtain ⟨k, rs, v, hk, rfl, hrs, hown, P3, Q3, GG, hbr, hl3⟩ := hrel
    by_cases hlt : k < Z
    · have i1 : (k : Int) < (Z : Int) := by omega
      have hlk : rs.length = k := by
        have := congrArg List.length hrs
        rwa [hds_length, List.length_replicate] at this
      have HL : Hid (hds rs ++ [newH D] = List.replicate (k + 1) (newH D)) := by
        show _ = _
        rw [hrs, List.replicate_succ']
      have HLK := Lib.hid hlk
      obtain ⟨g0, g1, g2, g3, g4⟩ := id GG
      have p0 := P3.c6
      clear hrs hlk
      go_wp2_with fail
      refine wp_region_tail (S := fun W => W.cell? ⟨ga, 6, none⟩ = some v ∧ W.cell? ⟨w.heap.size, 0, none⟩ = some (.int .i64 Z) ∧ W.cell? ⟨w.heap.size, 1, none⟩ = some (.int .i64 D) ∧ W.cell? ⟨w.heap.size, 2, none⟩ = some (.int .i64 s) ∧ W.cell? ⟨w.heap.size, 3, none⟩ = some (.int .i64 l) ∧ W.cell? ⟨w.heap.size, 4, none⟩ = some (.int .i64 a) ∧ Below (ga + 1) w5 W) 7 rfl (by kernel_rfl) (by kernel_rfl) ⟨p0, g0, g1, g2, g3, g4, below_dr (Below.refl _ _)⟩ (fun hS => ?_)
      simp only [List.take_succ_cons, List.take_zero]
      (refine wpAnyH_take (i := 0) (v := ?_) rfl (by kernel_rfl) (by kernel_rfl) (by kernel_rfl) (fun _ _ _ h => h) (Or.inl ⟨by rfl, ?_⟩) (by assumption) ?_; rotate_left; (focus (intro w hSw; (try dsimp only at hSw); go_split_ands; go_simp <;> with_reducible rfl)); simp only [List.getElem_toArray, List.getElem_cons_zero, Act.put, List.setIfInBounds_toArray, List.set_cons_zero, List.set_cons_succ])
      (refine wpAnyH_take (i := 1) (v := ?_) rfl (by kernel_rfl) (by kernel_rfl) (by kernel_rfl) (fun _ _ _ h => h) (Or.inl ⟨by rfl, ?_⟩) (by assumption) ?_; rotate_left; (focus (intro w hSw; (try dsimp only at hSw); go_split_ands; go_simp <;> with_reducible rfl)); simp only [List.getElem_toArray, List.getElem_cons_zero, List.getElem_cons_succ, Act.put, List.setIfInBounds_toArray, List.set_cons_zero, List.set_cons_succ])
      (refine wpAnyH_take (i := 2) (v := ?_) rfl (by kernel_rfl) (by kernel_rfl) (by kernel_rfl) (fun _ _ _ h => h) (Or.inl ⟨by rfl, ?_⟩) (by assumption) ?_; rotate_left; (focus (intro w hSw; (try dsimp only at hSw); go_split_ands; go_simp <;> with_reducible rfl)); simp only [List.getElem_toArray, List.getElem_cons_zero, List.getElem_cons_succ, Act.put, List.setIfInBounds_toArray, List.set_cons_zero, List.set_cons_succ])
      refine wpAnyH_ready (rs := [3]) (by kernel_rfl) (by simp) ?_
      refine AllReadyH.cons rfl (fun K hK => ?_) AllReadyH.nil
      go_simp
      (with_reducible refine (cH _).mono ?_)
      rintro e wo ⟨⟨Xo, co, rfl, oo⟩, hbo⟩
      have so : Below (ga + 1) w5 wo := bm (below_dr (Below.refl _ _)) hl3 hbo
      refine hK.out _ _ ⟨ks so (by omega) p0, ks so (by omega) g0, ks so (by omega) g1, ks so (by omega) g2, ks so (by omega) g3, ks so (by omega) g4, so⟩ (fun hS => ?_)
      clear hK K
      refine wpAnyH_ready (rs := [4]) (by kernel_rfl) (by simp) ?_
      refine AllReadyH.cons rfl (fun K hK => ?_) AllReadyH.nil
      go_simp
      have tw : Below w5.heap.size w5 wo := bt (below_dr (Below.refl _ _)) hbo
      have sa : Below (ga + 1) w5 (wo.alloc (.cells #[.slice Xo (D + 1) co, .int .i64 ((D : Int) + 1), .int .i64 0] 54)) := ka so hl3 _
      have ta : Below w5.heap.size w5 (wo.alloc (.cells #[.slice Xo (D + 1) co, .int .i64 ((D : Int) + 1), .int .i64 0] 54)) := kal tw _
      refine hK.out _ _ ⟨ks sa (by omega) p0, ks sa (by omega) g0, ks sa (by omega) g1, ks sa (by omega) g2, ks sa (by omega) g3, ks sa (by omega) g4, sa⟩ (fun hS => ?_)
      clear hK K
      refine wpAnyH_ready (rs := [5]) (by kernel_rfl) (by simp) ?_
      refine AllReadyH.cons rfl (fun K hK => ?_) AllReadyH.nil
      have ow := hown.below ta
      have la : w5.heap.size ≤ (wo.alloc (.cells #[.slice Xo (D + 1) co, .int .i64 ((D : Int) + 1), .int .i64 0] 54)).heap.size := ta.size
      have oO := OwnV.below oo (bl wo (.cells #[.slice Xo (D + 1) co, .int .i64 ((D : Int) + 1), .int .i64 0] 54))
      have src := src_home (P := Tryd.prog) (heap_alloc_new wo (.cells #[.slice Xo (D + 1) co, .int .i64 ((D : Int) + 1), .int .i64 0] 54)) Tryd.underlying24 (by simp [Value.oneCell'])
      have lso := so.size
      have oO2 : OwnV (wo.alloc (.cells #[.slice Xo (D + 1) co, .int .i64 ((D : Int) + 1), .int .i64 0] 54)) (ga + 1) 3 (.slice Xo (upto (D + 1)).length co) (ints (upto (D + 1))) := by
        rw [upto_length]
        exact oO.less (by simp; omega)
      generalize wo.alloc (.cells #[.slice Xo (D + 1) co, .int .i64 ((D : Int) + 1), .int .i64 0] 54) = wa at *
      refine step_row wa (by rfl) _ _ _ _ (by rfl) (ga + 1) 3 40 54 (.agg #[.slice none 0 0, .int .i64 0, .int .i64 0]) Tryd.underlying24 h_info (by rfl) v rs.length (hvs rs) (by rfl) ow.1 _ 1 _ (by rfl) src (by rw [HLK.out]; unfold maxLen; omega) (by have := HLK.out; omega) (by omega) ?_
      intro v3 w3 h3 hg3
      have hb3 : Below (ga + 1) wa w3 := (Below.refl _ _).mono (by omega) |>.grown hg3 (by omega) (fun q hq => (World.ownsRow.lt ow.1 q hq).1)
      have bw3 : Below (ga + 1) w5 w3 := (ta.mono hl3).trans hb3
      refine hK.out _ _ ⟨ks bw3 (by omega) p0, ks bw3 (by omega) g0, ks bw3 (by omega) g1, ks bw3 (by omega) g2, ks bw3 (by omega) g3, ks bw3 (by omega) g4, bw3⟩ (fun hS => ?_)
      clear hK K
      simp only [List.getElem_toArray, List.getElem_cons_zero, List.getElem_cons_succ, Act.put, List.setIfInBounds_toArray, List.set_cons_zero, List.set_cons_succ]
      (refine wpAnyH_take (i := 6) (v := ?_) rfl (by kernel_rfl) (by kernel_rfl) (by kernel_rfl) (fun _ _ _ h => h) (Or.inl ⟨by rfl, ?_⟩) (by assumption) ?_; rotate_left; (focus (intro w hSw; (try dsimp only at hSw); go_split_ands; go_simp <;> with_reducible rfl)); simp only [List.getElem_toArray, List.getElem_cons_zero, List.getElem_cons_succ, Act.put, List.setIfInBounds_toArray, List.set_cons_zero, List.set_cons_succ])
      refine wpAnyH_done (by kernel_rfl) ?_ _
      have P4 := P3.keep bw3 (by omega)
      have Q4 := Q3.keep bw3 (by omega)
      have G4 := GG.keep bw3 (by omega)
      have c6 := P4.c6
      have f6 := P4.f6
      obtain ⟨A3, c3, rfl, -, -, -⟩ := row_form h3
      simp only [tailQ]
      go_simp
      have hvr : (⟨Xo, co, upto (D + 1), (D : Int) + 1, 0⟩ : HomR).vs = [.slice Xo (D + 1 : Nat) co, .int .i64 ((D : Int) + 1), .int .i64 0] := by unfold HomR.vs; simp only; rw [upto_length]
      have hfin : OwnH (w3.setCell ⟨ga, 6, none⟩ (.slice A3 (rs.length + 1) c3)) (ga + 1) (.slice A3 (rs.length + 1) c3) (rs ++ [⟨Xo, co, upto (D + 1), (D : Int) + 1, 0⟩]) :=
        OwnH.cell_set (ow.more (r := ⟨Xo, co, upto (D + 1), (D : Int) + 1, 0⟩) hg3 oO2 (by rw [hvr]; exact h3)) (by omega) _
      have hbf : Below w.heap.size w (w3.setCell ⟨ga, 6, none⟩ (.slice A3 (rs.length + 1) c3)) := (hbr.trans (bw3.mono (by omega))).setCell (show w.heap.size ≤ ga by omega) _
      have hsz := bw3.size
      clear c6 f6 p0 g0 g1 g2 g3 g4 hvr
      go_wp2
      go_roundw
      case rel => exact ⟨k + 1, _, _, by omega, by go_num, by rw [hds_append]; exact HL.out, hfin, P4.set6 _, Q4.apart (by omega) _, G4.set (by omega) _, hbf, by simp; omega⟩
      case measure => simp [RowKit.intOf]; omega
    · have i1 : ¬ (k : Int) < (Z : Int) := by omega
      have hrs2 : hds rs = List.replicate Z (newH D) := by rw [hrs]; congr 1; omega
      have HR := Lib.hid hrs2
      obtain ⟨c0, c1, c2, c3, c4, c5, c6, -, -, -, -, -, -, -⟩ := id P3
      obtain ⟨z0, z1, z2, z3, z4, z5, z6, f0, f1, f2, f3, f4, f5, f6⟩ := id Q3
      clear hrs hrs2
      obtain ⟨A1, e1, rfl, n1, n2, s1⟩ := row_form hown.1
      go_wp2_with fail
      have k7 := (((((((Q3.set0 (.int .i64 1)).set1 (.int .i64 0)).set2 (.int .i64 0)).set3 (.int .i64 1)).set4 (.int .i64 0)).set5 (.string lab)).set6 (.slice A1 rs.length e1))
      have hg : w.heap.size + 1 < ga + 1 := by omega
      have h7 := (((((((hown.cell_set (o := 0) hg (.int .i64 1)).cell_set (o := 1) hg (.int .i64 0)).cell_set (o := 2) hg (.int .i64 0)).cell_set (o := 3) hg (.int .i64 1)).cell_set (o := 4) hg (.int .i64 0)).cell_set (o := 5) hg (.string lab)).cell_set (o := 6) hg (.slice A1 rs.length e1))
      have hl : w.heap.size ≤ w.heap.size + 1 := by omega
      refine bodyPost_ret (v := .tuple #[.agg #[.int .i64 1, .int .i64 0, .int .i64 0, .int .i64 1, .int .i64 0, .string lab, .slice A1 rs.length e1], .int .i64 0]) (by simp [results, Tryd.results11, go_sem, k7.c0, k7.c1, k7.c2, k7.c3, k7.c4, k7.c5, k7.c6]) rfl ⟨⟨⟨1, 0, 0, 1, 0, lab, A1, e1, rs⟩, rfl, ?_, OwnH.less h7 (by omega)⟩, (((((((hbr.setCell hl _).setCell hl _).setCell hl _).setCell hl _).setCell hl _).setCell hl _).setCell hl _)⟩
      show (⟨1, 0, 0, 1, 0, lab, hds rs⟩ : Anc) = _
      rw [HR.out]
      simp [firstA]
end Go.Proofs.YtkpbfhjpmhgmoaaDoor.anc
