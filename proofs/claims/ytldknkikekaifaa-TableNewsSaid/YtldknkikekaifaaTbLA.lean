/-
  The law TableNews, walked: it returns true for every input. Conditions: 'Ctt'.
-/
import Derived.Test.YtldknkikekaifaaTbP
namespace Go.Proofs.Ytldknkikekaifaa.tbl
open Go.RowKit Go.Lib
open Go.Proofs.Ytldknkikekaifaa.gmt (Ok five_new some_any)
open Go.Proofs.Ytldknkikekaifaa.crc (ref_sum)
open Go.Proofs.Ytldknkikekaifaa.anc (flat_get flat_len slv_cell bl kal kst ks bm ka)

/-- No integers, and no error. -/
def NonZ (e : Ending) : Prop := ∃ (X : Option Addr) (c : Nat), e = .returned (.tuple #[.slice X 0 c, .int .i64 0])
theorem lostN_new (n : Nat) : ∀ k, lostN (List.replicate n newE) k = []
  | 0 => rfl
  | k + 1 => by
    unfold lostN
    rw [lostN_new n k, List.getElem?_replicate]
    split <;> rfl
set_option maxRecDepth 100000 in
set_option maxHeartbeats 4000000 in
theorem tableNews_law (v1 v2 v3 : Int) (w : World) (hc : Ctt w) :
    Calls Try.prog 6 #[.int .i64 v1, .int .i64 v2, .int .i64 v3] w fun e w' => e = .returned (.bool true) ∧ Below w.heap.size w w' := by
  have HC := Lib.hid hc
  clear hc
  go_enter Try.func6, Try.ntmps6
  go_upto_region 2 with (go_at_call 23; (with_reducible refine (some_any _ _ _ _ _ _).mono ?_); rintro e w1 ⟨⟨z, d, s, l, a, ho, rfl⟩, hb1⟩)
  have o2 := ho.2.1
  obtain ⟨D, rfl⟩ : ∃ D : Nat, d = D := ⟨d.toNat, by omega⟩
  have HO := Lib.hid ho
  have hx1 := bl w1 (.cells #[.int .i64 z, .int .i64 D, .int .i64 s, .int .i64 l, .int .i64 a] 23)
  have GG := g5_new w1 z D s l a
  have B1 := bt hb1 hx1
  obtain ⟨gG, hgG⟩ : ∃ g, g = w1.heap.size := ⟨_, rfl⟩
  rw [← hgG] at GG ⊢
  have lG : gG < (w1.alloc (.cells #[.int .i64 z, .int .i64 D, .int .i64 s, .int .i64 l, .int .i64 a] 23)).heap.size := by rw [hgG]; simp
  clear hb1 hx1 hgG ho
  generalize w1.alloc (.cells #[.int .i64 z, .int .i64 D, .int .i64 s, .int .i64 l, .int .i64 a] 23) = w2 at *
  obtain ⟨g0, g1, g2, g3, g4⟩ := id GG
  go_upto_region 3 with (go_at_call 8; (with_reducible refine (HC.out.first z D s l a _ B1 HO.out).mono ?_); rintro e w3 ⟨⟨t, het, hte0, hto⟩, hb3⟩; rw [TV.v] at het; subst het; have hte1 := Lib.hid hte0; clear hte0)
  have hte := hte1.out
  rw [Int.toNat_natCast] at hte
  have htl : t.es.length = D + 1 := by rw [hte, List.length_replicate]
  rw [htl]
  have hx3 := bl w3 (.cells #[.slice t.A (D + 1 : Nat) t.c] 26)
  have T3 := c1_new w3 (.slice t.A (D + 1 : Nat) t.c) 26
  have HTI := Lib.hid ((TV.Own.inn hto).next hx3)
  have HTE := Lib.hid hte
  have HTL := Lib.hid htl
  have b23 := bt hb3 hx3
  replace GG := GG.keep b23 lG
  replace B1 := bt B1 b23
  replace lG := Nat.lt_of_lt_of_le lG b23.size
  obtain ⟨gT, hgT⟩ : ∃ g, g = w3.heap.size := ⟨_, rfl⟩
  rw [← hgT] at T3 ⊢
  have lT : gT < (w3.alloc (.cells #[.slice t.A (D + 1 : Nat) t.c] 26)).heap.size := by rw [hgT]; simp
  clear hgT hx3 hb3 b23 hte hte1 hto htl g0 g1 g2 g3 g4
  generalize w3.alloc (.cells #[.slice t.A (D + 1 : Nat) t.c] 26) = w4 at *
  have t0 := T3.c0
  obtain ⟨g0, g1, g2, g3, g4⟩ := id GG
  have HL := Lib.hid (show Calls Try.prog 11 #[.agg #[.int .i64 z, .int .i64 D, .int .i64 s, .int .i64 l, .int .i64 a], .agg #[.slice t.A (D + 1 : Nat) t.c]] w4 fun e w' => NonZ e ∧ Below w4.heap.size w4 w' from by
    have h9 := HC.out.lost z D s l a t w4 B1 HO.out HTI.out (by rw [HTE.out]; have := new_good (d := (D : Int)) (by omega); rwa [Int.toNat_natCast] at this)
    unfold TV.v at h9
    rw [HTL.out, HTE.out, lostN_new] at h9
    refine h9.mono ?_
    rintro e w' ⟨⟨X, c, rfl, -, -⟩, hb⟩
    exact ⟨⟨X, c, rfl⟩, hb⟩)
  have j1 : ((D + 1 : Nat) : Int) = (D : Int) + 1 := by omega
  have j2 : (((D : Int) + 1) != ((D : Int) + 1)) = false := bne_self_eq_false _
  go_upto_region 6 with (go_at_call 11; (with_reducible refine HL.out.mono ?_); rintro e w5 ⟨⟨X, xc, rfl⟩, hb5⟩; replace GG := GG.keep hb5 lG; replace t0 := kst hb5 lT t0; clear g0 g1 g2 g3 g4; obtain ⟨g0, g1, g2, g3, g4⟩ := id GG)
  replace B1 := bt B1 hb5
  replace lG := Nat.lt_of_lt_of_le lG hb5.size
  replace lT := Nat.lt_of_lt_of_le lT hb5.size
  have HTI2 := Lib.hid (HTI.out.next hb5)
  clear HL hb5 HTI T3 g0 g1 g2 g3 g4 j2
  obtain ⟨w6, rfl⟩ : ∃ x, x = w5 := ⟨w5, rfl⟩
  go_wp2_with fail
  go_loopw [12] (fun i w' => ∃ (k : Nat), k ≤ D + 1 ∧ i = .int .i64 k ∧ Below w6.heap.size w6 w') (fun i _ => D + 1 - (RowKit.intOf i).toNat)
  case atStart => exact ⟨0, Nat.zero_le _, rfl, Below.refl _ _⟩
  case round =>
    obtain ⟨w7, rfl⟩ : ∃ x, x = wr := ⟨wr, rfl⟩
    obtain ⟨k, hk, rfl, hbr⟩ := hrel
    have t5 := kst hbr lT t0
    by_cases hlt : k < D + 1
    · obtain ⟨b1, off, e0, hA1, hb1, c0, c1, c2, -, e1⟩ := ent_at HTI2.out.h (show k < t.es.length by rw [HTL.out]; exact hlt)
      rw [HTE.out, List.getElem?_replicate] at e1
      rw [if_pos hlt] at e1
      obtain rfl : newE = e0 := Option.some.inj e1
      rw [hA1] at t0 t5
      obtain ⟨N, hN⟩ : ∃ N : Int, N = newE.sm := ⟨_, rfl⟩
      rw [← hN] at c1
      rw [show newE.st = 0 from rfl] at c0
      rw [show newE.ls = false from rfl] at c2
      have HSU := Lib.hid (show ∀ (W : World) (g : Nat), Sl W W.heap.size (some ⟨g, 0, none⟩) zer8 → Calls Try.prog 24 #[.slice (some ⟨g, 0, none⟩) 8 8] W fun e w' => e = .returned (.int .i64 N) ∧ W = w' from fun W g h => by
        rw [hN]
        exact ref_sum (some ⟨g, 0, none⟩) 8 W.heap.size zer8 W h (by decide))
      obtain ⟨tc, htc⟩ : ∃ x, x = t.c := ⟨_, rfl⟩
      rw [← htc] at t0 t5
      have i1 : (k : Int) < (D : Int) + 1 := by omega
      have i2 : (k : Int) < ((D + 1 : Nat) : Int) := by omega
      have hmk := z8_run
      have HS8 := Lib.hid z8_sl
      clear hN e1 htc hA1
      go_upto_region 9 with fail
      have HF := Lib.hid (show ∀ W, Below w6.heap.size w6 W → W.cell? ⟨gT, 0, none⟩ = some (.slice (some ⟨b1, off, none⟩) (D + 1 : Nat) tc) ∧ W.cell? ⟨b1, off + k * 3, none⟩ = some (.int .i64 0) ∧ W.cell? ⟨b1, off + k * 3 + 1, none⟩ = some (.int .i64 N) ∧ W.cell? ⟨b1, off + k * 3 + 2, none⟩ = some (.bool false) ∧ Below w6.heap.size w6 W from fun W h => ⟨kst h lT t0, kst h hb1 c0, kst h hb1 c1, kst h hb1 c2, h⟩)
      replace c0 := kst hbr hb1 c0
      replace c1 := kst hbr hb1 c1
      replace c2 := kst hbr hb1 c2
      go_region_held3 (fun W => W.cell? ⟨gT, 0, none⟩ = some (.slice (some ⟨b1, off, none⟩) (D + 1 : Nat) tc) ∧ W.cell? ⟨b1, off + k * 3, none⟩ = some (.int .i64 0) ∧ W.cell? ⟨b1, off + k * 3 + 1, none⟩ = some (.int .i64 N) ∧ W.cell? ⟨b1, off + k * 3 + 2, none⟩ = some (.bool false) ∧ Below w6.heap.size w6 W)
        ((refine HF.out _ ?_; first
          | with_reducible exact bt hbr (below_dr (bl w7 _))
          | with_reducible exact bt hbr (bl w7 _)
          | with_reducible exact bt hbr (below_dr (Below.refl _ _))
          | fail))
        (first
          | (go_at_call 24; (with_reducible refine (HSU.out _ _ ((HS8.out w7).next (below_dr (Below.refl _ _)))).mono ?_); rintro e wq ⟨rfl, rfl⟩)
          | fail)
      have b10 := bt hbr (below_dr (bl w7 (.cells z8cells 5)))
      go_wp2_with fail
      go_roundw
      case rel => exact ⟨k + 1, by omega, by go_num, b10⟩
      case measure => simp [RowKit.intOf]; omega
    · obtain rfl : k = D + 1 := by omega
      have i1 : ¬ ((D + 1 : Nat) : Int) < (D : Int) + 1 := by omega
      have HWK := Lib.hid (wk_tab w7 (HC.out.next (bt B1 hbr)))
      go_wp2_with (go_at_call 15; (with_reducible refine HWK.out.mono ?_); rintro e wz ⟨rfl, hbz⟩)
      go_ret
      exact ⟨rfl, bt (bt B1 hbr) hbz⟩
end Go.Proofs.Ytldknkikekaifaa.tbl
