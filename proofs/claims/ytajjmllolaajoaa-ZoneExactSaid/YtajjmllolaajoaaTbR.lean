/-
  The document's tables: whether one is right, a new one. Conditions: a right geometry.
-/
import Derived.Test.YtajjmllolaajoaaTbK
import Derived.Test.YtajjmllolaajoaaTail
import Derived.Test.YtajjmllolaajoaaGSum
import Derived.Test.YtajjmllolaajoaaGGm

import Derived.Deep.CutRange
namespace Go.Proofs.Ytajjmllolaajoaa.tbl
open Go.RowKit Go.Lib
open Go.Proofs.Ytajjmllolaajoaa.gmt (Ok five_new)
open Go.Proofs.Ytajjmllolaajoaa.crc (ref_sum)
open Go.Proofs.Ytajjmllolaajoaa.anc (flat_get flat_len slv_cell bl kal kst ks bm ka take_same take_other row_form row_below wpList_row src_home step_row)

set_option maxRecDepth 100000 in
theorem r8in_at (x : Bool) (n lo hi : Int) (w : World) (hx : x = true ↔ lo ≤ n ∧ n ≤ hi) :
    Calls Try.prog 33 #[.int .i64 n, .int .i64 lo, .int .i64 hi] w fun e w' => e = .returned (.bool x) ∧ w = w' := by
  by_cases h1 : lo ≤ n
  · by_cases h2 : n ≤ hi
    · obtain rfl : x = true := hx.2 ⟨h1, h2⟩
      clear hx
      go_enter Try.func33, Try.ntmps33
      go_wp2
      go_ret
      exact ⟨rfl, rfl⟩
    · obtain rfl : x = false := by
        cases x with
        | false => rfl
        | true => exact absurd (hx.1 rfl).2 h2
      clear hx
      go_enter Try.func33, Try.ntmps33
      go_wp2
      go_ret
      exact ⟨rfl, rfl⟩
  · obtain rfl : x = false := by
      cases x with
      | false => rfl
      | true => exact absurd (hx.1 rfl).1 h1
    clear hx
    go_enter Try.func33, Try.ntmps33
    go_wp2
    go_ret
    exact ⟨rfl, rfl⟩
set_option maxRecDepth 100000 in
set_option maxHeartbeats 4000000 in
theorem rtable_any (c : Bool) (z d s l a : Int) (x : TV) (w : World) (ho : Ok z d s l a) (hx : x.In w w.heap.size) (hn : x.es.length ≤ 1048576) (hc : c = true ↔ Good d x.es) :
    Calls Try.prog 17 #[.agg #[.int .i64 z, .int .i64 d, .int .i64 s, .int .i64 l, .int .i64 a], x.v] w fun e w' => e = .returned (.bool c) ∧ Below w.heap.size w w' := by
  obtain ⟨n, hxn⟩ : ∃ n, x.es.length = n := ⟨_, rfl⟩
  have o2 := ho.2.1
  obtain ⟨D, rfl⟩ : ∃ D : Nat, d = D := ⟨d.toNat, by omega⟩
  have GG := (g5_new w z D s l a).keep (bl (w.alloc (.cells #[.int .i64 z, .int .i64 D, .int .i64 s, .int .i64 l, .int .i64 a] 23)) (.cells #[.slice x.A n x.c] 26)) (by simp)
  have T1 := c1_new (w.alloc (.cells #[.int .i64 z, .int .i64 D, .int .i64 s, .int .i64 l, .int .i64 a] 23)) (.slice x.A n x.c) 26
  rw [show (w.alloc (.cells #[.int .i64 z, .int .i64 D, .int .i64 s, .int .i64 l, .int .i64 a] 23)).heap.size = w.heap.size + 1 by simp] at T1
  have hb := kal (bl w (.cells #[.int .i64 z, .int .i64 D, .int .i64 s, .int .i64 l, .int .i64 a] 23)) (.cells #[.slice x.A n x.c] 26)
  have l2 : ((w.alloc (.cells #[.int .i64 z, .int .i64 D, .int .i64 s, .int .i64 l, .int .i64 a] 23)).alloc (.cells #[.slice x.A n x.c] 26)).heap.size = w.heap.size + 2 := by simp
  unfold TV.v
  rw [hxn] at hn ⊢
  have HC := Lib.hid hc
  have HXN := Lib.hid hxn
  clear hc hxn
  go_enter Try.func17, Try.ntmps17
  go_upto_region 1 with fail
  generalize (w.alloc (.cells #[.int .i64 z, .int .i64 D, .int .i64 s, .int .i64 l, .int .i64 a] 23)).alloc (.cells #[.slice x.A n x.c] 26) = w0 at *
  obtain ⟨-, g1, -, -, -⟩ := id GG
  have t0 := T1.c0
  by_cases hln : n = D + 1
  case neg =>
    have hcf : c = false := by
      cases c with
      | false => rfl
      | true => exact absurd (HC.out.1 rfl).1 (by rw [HXN.out]; omega)
    subst hcf
    have i1 : ((n : Int) != (D : Int) + 1) = true := bne_iff_ne.2 (by omega)
    clear hln HC
    go_wp2_with fail
    go_ret
    exact ⟨rfl, hb⟩
  have i1 : ((n : Int) != (D : Int) + 1) = false := by rw [hln]; simp
  have hX0 := (hx.below hb).h
  obtain ⟨b1, off, e, hA1, hb1, c0, c1, c2, -, e1⟩ := ent_at hX0 (show D < x.es.length by rw [HXN.out]; omega)
  rw [hA1] at t0
  have HA1 := Lib.hid hA1
  have i2 : (D : Int) < (n : Int) := by omega
  by_cases hls : e.ls = true
  case pos =>
    have hcf : c = false := by
      cases c with
      | false => rfl
      | true =>
        have := (HC.out.1 rfl).2.2 e (by rw [Int.toNat_natCast]; exact e1)
        rw [hls] at this
        cases this
    subst hcf
    rw [hls] at c2
    clear hln hls HC hX0 e1 hA1
    go_wp2_with fail
    go_ret
    exact ⟨rfl, hb⟩
  have hls0 : e.ls = false := by
    cases h : e.ls with
    | false => rfl
    | true => exact absurd h hls
  have HLAST := Lib.hid (show ∀ u, x.es[(D : Int).toNat]? = some u → u.ls = false from fun u hu => by
    rw [Int.toNat_natCast, e1] at hu
    rw [← Option.some.inj hu]
    exact hls0)
  rw [hls0] at c2
  have HLN := Lib.hid hln
  clear hls hls0 e1 hln hA1
  go_wp2_with fail
  clear c0 c1 c2
  go_loopw [5] (fun i w' => ∃ k : Nat, k ≤ n ∧ i = .int .i64 k ∧ (∀ j, j < k → ∀ u, x.es[j]? = some u → EntOk u) ∧ Below w0.heap.size w0 w') (fun i _ => n - (RowKit.intOf i).toNat)
  case atStart => exact ⟨0, by omega, rfl, fun j hj => absurd hj (by omega), Below.refl _ _⟩
  case round =>
    obtain ⟨w5, rfl⟩ : ∃ x, x = wr := ⟨wr, rfl⟩
    obtain ⟨k, hk, rfl, hs, hbr⟩ := hrel
    have hb5 := bt hb hbr
    have t5 := kst hbr (by omega) t0
    have lw := hb5.size
    by_cases hlt : k < n
    · obtain ⟨b2, off2, u, hA2, hb2, c0, c1, c2, -, e2⟩ := ent_at (hx.below hb5).h (show k < x.es.length by rw [HXN.out]; omega)
      rw [HA1.out] at hA2
      simp only [Option.some.injEq, Addr.mk.injEq, and_true] at hA2
      obtain ⟨rfl, rfl⟩ := hA2
      have i3 : (k : Int) < (n : Int) := by omega
      have H1 := Lib.hid (show EntOk u → ∀ j, j < k + 1 → ∀ v, x.es[j]? = some v → EntOk v from fun hu j hj v hv => by
        rcases Nat.lt_or_ge j k with h | h
        · exact hs j h v hv
        · obtain rfl : j = k := by omega
          rw [e2] at hv
          rw [← Option.some.inj hv]
          exact hu)
      have H2 := Lib.hid (show ¬ EntOk u → c = false from fun hu => by
        cases c with
        | false => rfl
        | true => exact absurd ((HC.out.1 rfl).2.1 u (List.mem_of_getElem? e2)) hu)
      have c1st := fun W => r8in_at (decide (0 ≤ u.st ∧ u.st ≤ 4294967295)) u.st 0 4294967295 W (by simp)
      have c2sm := fun W => r8in_at (decide (0 ≤ u.sm ∧ u.sm ≤ 4294967295)) u.sm 0 4294967295 W (by simp)
      clear hs e2 hX0
      by_cases k1 : 0 ≤ u.st ∧ u.st ≤ 4294967295
      · by_cases k2 : 0 ≤ u.sm ∧ u.sm ≤ 4294967295
        · have H3 := Lib.hid (H1.out ⟨k1, k2⟩)
          simp only [decide_eq_true k1] at c1st
          simp only [decide_eq_true k2] at c2sm
          clear k1 k2 H1 H2
          go_wp2_with (first
            | (go_at_call 33; (with_reducible refine (c1st _).mono ?_); rintro e' wq ⟨rfl, rfl⟩)
            | (go_at_call 33; (with_reducible refine (c2sm _).mono ?_); rintro e' wq ⟨rfl, rfl⟩))
          go_roundw
          case rel => exact ⟨k + 1, by omega, by go_num, H3.out, hbr⟩
          case measure => simp [RowKit.intOf]; omega
        · obtain rfl := H2.out fun h => k2 h.2
          simp only [decide_eq_true k1] at c1st
          simp only [decide_eq_false k2] at c2sm
          clear k1 k2 H1 H2
          go_wp2_with (first
            | (go_at_call 33; (with_reducible refine (c1st _).mono ?_); rintro e' wq ⟨rfl, rfl⟩)
            | (go_at_call 33; (with_reducible refine (c2sm _).mono ?_); rintro e' wq ⟨rfl, rfl⟩))
          go_ret
          exact ⟨rfl, hb5⟩
      · obtain rfl := H2.out fun h => k1 h.1
        simp only [decide_eq_false k1] at c1st
        clear k1 H1 H2 c2sm
        go_wp2_with (first
          | (go_at_call 33; (with_reducible refine (c1st _).mono ?_); rintro e' wq ⟨rfl, rfl⟩))
        go_ret
        exact ⟨rfl, hb5⟩
    · have hct : c = true := HC.out.2 ⟨by rw [HXN.out]; have := HLN.out; omega, fun u hu => by
        obtain ⟨j, hj, rfl⟩ := List.mem_iff_getElem.1 hu
        exact hs j (by rw [HXN.out] at hj; omega) _ (List.getElem?_eq_getElem hj), HLAST.out⟩
      have i3 : ¬ (k : Int) < (n : Int) := by omega
      subst hct
      clear hs HC
      go_wp2_with fail
      go_ret
      exact ⟨rfl, hb5⟩
/-- A new entry. -/
def Ent.v (e : Ent) : Value := .agg #[.int .i64 e.st, .int .i64 e.sm, .bool e.ls]
set_option maxRecDepth 100000 in
set_option maxHeartbeats 4000000 in
theorem rentry_any (st : Int) (A : Option Addr) (n c : Nat) (b : List UInt8) (w : World) (hn : b.length = n) (hm : n ≤ maxLen) (hA : Sl w w.heap.size A b) :
    Calls Try.prog 35 #[.int .i64 st, .slice A n c] w fun e w' => e = .returned (.agg #[.int .i64 st, .int .i64 (crc.sum b : Nat), .bool false]) ∧ Below w.heap.size w w' := by
  subst hn
  have P := anc.tri_new w (.int .i64 0) (.int .i64 0) (.bool false) 54
  have hb := bl w (.cells #[.int .i64 0, .int .i64 0, .bool false] 54)
  have lx : w.heap.size < (w.alloc (.cells #[.int .i64 0, .int .i64 0, .bool false] 54)).heap.size := by simp
  have cS := fun W (hW : Below w.heap.size w W) => ref_sum A c w.heap.size b W (hA.below hW) hm
  go_enter Try.func35, Try.ntmps35
  go_upto_region 1 with fail
  generalize w.alloc (.cells #[.int .i64 0, .int .i64 0, .bool false] 54) = w0 at *
  obtain ⟨z0, z1, z2, f0, f1, f2⟩ := id P
  go_wp2_with (go_at_call 27; (with_reducible refine (cS _ hb).mono ?_); rintro e w1 ⟨rfl, rfl⟩)
  have k3 := ((P.set0 (.int .i64 st)).set1 (.int .i64 (crc.sum b : Nat))).set2 (.bool false)
  exact bodyPost_ret (v := .agg #[.int .i64 st, .int .i64 (crc.sum b : Nat), .bool false]) (by simp [results, Try.results35, go_sem, k3.c0, k3.c1, k3.c2]) rfl ⟨rfl, ((hb.setCell (p := ⟨w.heap.size, 0, none⟩) (Nat.le_refl _) _).setCell (p := ⟨w.heap.size, 1, none⟩) (Nat.le_refl _) _).setCell (p := ⟨w.heap.size, 2, none⟩) (Nat.le_refl _) _⟩
end Go.Proofs.Ytajjmllolaajoaa.tbl
