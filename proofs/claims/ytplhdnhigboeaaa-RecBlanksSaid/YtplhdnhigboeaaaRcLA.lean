/-
  RecBlanks: a blank record is a kind and ten noughts; whatever else stands in it makes it none. Conditions: 'Crd'.
-/
import Derived.Test.YtplhdnhigboeaaaRcQ
import Derived.Test.YtplhdnhigboeaaaGGm
import Derived.Test.YtplhdnhigboeaaaRcS
namespace Go.Proofs.Ytplhdnhigboeaaa.lrc
open Go.RowKit Go.Lib
open Go.Proofs.Ytplhdnhigboeaaa.gmt (Ok)
open Go.Proofs.Ytplhdnhigboeaaa.anc (bl kal kst ks bm ka)
open Go.Proofs.Ytplhdnhigboeaaa.tbl (C1 c1_new G5 g5_new)
open Go.Proofs.Ytplhdnhigboeaaa.img

def z11 : List UInt8 := [0, 0, 0, 0, 0, 0, 0, 0, 0, 0, 0]
theorem enc_no : encR noRec = z11 := by decide +kernel
theorem no_ok (z d : Int) : RecOk z d noRec := .inl ⟨rfl, rfl, rfl, rfl, rfl, rfl, rfl, rfl⟩
theorem num_cons (x : UInt8) (l : List UInt8) : pck.num (x :: l) = x.toNat + 256 * pck.num l := by rw [pck.num]
theorem num_zero {l : List UInt8} (h : pck.num l = 0) : ∀ x ∈ l, x = 0 := by
  induction l with
  | nil => intro x hx; cases hx
  | cons y l ih =>
    rw [num_cons] at h
    intro x hx
    rcases List.mem_cons.1 hx with g | g
    · rw [g]
      have : y.toNat = 0 := by omega
      exact UInt8.toNat_inj.1 this
    · exact ih (by omega) x g
/-- One of its ten noughts written over. -/
theorem blank_set {z d : Int} {j : Nat} {v : UInt8} (h1 : 1 ≤ j) (h2 : j ≤ 10) (h : RdOk z d (z11.set j v)) : v = 0 := by
  have hk : at1 (z11.set j v) 0 = 0 := by
    obtain ⟨i, rfl⟩ : ∃ i, j = i + 1 := ⟨j - 1, by omega⟩
    rfl
  have h8 : at4 (z11.set j v) 1 = 0 ∧ at4 (z11.set j v) 5 = 0 ∧ at1 (z11.set j v) 9 = 0 ∧ at1 (z11.set j v) 10 = 0 := by
    have h9 := h.2
    unfold recN at h9
    rw [if_neg (by omega), hk] at h9
    rcases h9 with ⟨-, g1, g2, g3, g4, -⟩ | ⟨-, g, -⟩ | ⟨-, g, -⟩
    · simp only at g1 g2 g3 g4
      omega
    · exact absurd (show (0 : Int) = 2 from g) (by decide)
    · exact absurd (show (0 : Int) = 1 from g) (by decide)
  obtain ⟨a1, a2, a3, a4⟩ := h8
  have hj : j = 1 ∨ j = 2 ∨ j = 3 ∨ j = 4 ∨ j = 5 ∨ j = 6 ∨ j = 7 ∨ j = 8 ∨ j = 9 ∨ j = 10 := by omega
  rcases hj with rfl | rfl | rfl | rfl | rfl | rfl | rfl | rfl | rfl | rfl
  · exact num_zero (l := [v, 0, 0, 0]) a1 v (by simp)
  · exact num_zero (l := [0, v, 0, 0]) a1 v (by simp)
  · exact num_zero (l := [0, 0, v, 0]) a1 v (by simp)
  · exact num_zero (l := [0, 0, 0, v]) a1 v (by simp)
  · exact num_zero (l := [v, 0, 0, 0]) a2 v (by simp)
  · exact num_zero (l := [0, v, 0, 0]) a2 v (by simp)
  · exact num_zero (l := [0, 0, v, 0]) a2 v (by simp)
  · exact num_zero (l := [0, 0, 0, v]) a2 v (by simp)
  · exact num_zero (l := [v]) a3 v (by simp)
  · exact num_zero (l := [v]) a4 v (by simp)
theorem z11_get (k : Nat) (h : k < 11) : z11[k]'h = 0 := by
  have hj : k = 0 ∨ k = 1 ∨ k = 2 ∨ k = 3 ∨ k = 4 ∨ k = 5 ∨ k = 6 ∨ k = 7 ∨ k = 8 ∨ k = 9 ∨ k = 10 := by omega
  rcases hj with rfl | rfl | rfl | rfl | rfl | rfl | rfl | rfl | rfl | rfl | rfl <;> rfl
set_option maxRecDepth 100000 in
set_option maxHeartbeats 8000000 in
theorem rb_main (z d s l a av : Int) (v : UInt8) (w : World) (hc : Crd w) (ho : Ok z d s l a) :
    Calls Try.prog 8 #[.agg #[.int .i64 z, .int .i64 d, .int .i64 s, .int .i64 l, .int .i64 a], .int .i64 av, .int .u8 v.toNat] w fun e w' => e = .returned (.bool true) ∧ Below w.heap.size w w' := by
  have HC := Lib.hid hc
  have HO := Lib.hid ho
  have HGO := Lib.hid fun W => gmt.rgeo_at true z d s l a W (iff_of_true rfl ho)
  obtain ⟨j1, j2⟩ := gmt.wrap_mod av 10 (by decide)
  obtain ⟨k, hk⟩ : ∃ k : Nat, (IntKind.u64.wrap av).tmod 10 = (k : Int) := ⟨((IntKind.u64.wrap av).tmod 10).toNat, by omega⟩
  have hk10 : k < 10 := by omega
  have hkw : IntKind.i64.wrap (k : Int) = k := IntWalk.i64_in _ (by omega)
  have hkw1 : IntKind.i64.wrap (1 + (k : Int)) = ((k + 1 : Nat) : Int) := by rw [show (1 : Int) + k = ((k + 1 : Nat) : Int) by omega]; exact IntWalk.i64_in _ (by omega)
  have hv : v.toNat ≤ 255 := by have := v.toNat_lt; omega
  have hd := ho.2.1
  have hz4 : z ≤ 4 := ho.1.2
  clear hc ho j1 j2
  have GG := g5_new w z d s l a
  have hw := bl w (.cells #[.int .i64 z, .int .i64 d, .int .i64 s, .int .i64 l, .int .i64 a] 23)
  have lw : w.heap.size < (w.alloc (.cells #[.int .i64 z, .int .i64 d, .int .i64 s, .int .i64 l, .int .i64 a] 23)).heap.size := by simp
  go_enter Try.func8, Try.ntmps8
  go_upto_region 1 with fail
  generalize w.alloc (.cells #[.int .i64 z, .int .i64 d, .int .i64 s, .int .i64 l, .int .i64 a] 23) = w0 at *
  obtain ⟨g0, g1, g2, g3, g4⟩ := id GG
  have HBY := Lib.hid (show ∀ W, Below w0.heap.size w0 W → Calls Try.prog 11 #[.agg #[.int .i64 z, .int .i64 d, .int .i64 s, .int .i64 l, .int .i64 a], .agg #[.int .i64 0, .int .i64 0, .int .i64 0, .int .i64 0, .int .i64 0, .int .i64 0, .int .i64 0, .slice none 0 0]] W fun e w' => (∃ (X : Option Addr) (c : Nat), e = .returned (.tuple #[.slice X 11 c, .int .i64 0]) ∧ Own w' W.heap.size 5 (.slice X 11 c) z11) ∧ Below W.heap.size W w' from fun W hW => by
    have h9 := HC.out.bytes z d s l a ⟨0, 0, 0, 0, 0, ⟨0, 0, none, 0, []⟩⟩ 0 W (bt hw hW) HO.out ⟨Sl.nil _ _ _, Nat.le_refl 0, Nat.zero_le _⟩ rfl (no_ok z d)
    unfold BytR at h9
    rw [show encR (RcR.d ⟨0, 0, 0, 0, 0, ⟨0, 0, none, 0, []⟩⟩) = z11 from enc_no] at h9
    exact h9)
  go_upto_region 3 with (go_at_call 16; (with_reducible refine (HGO.out _).mono ?_); rintro e w1 ⟨rfl, hb1⟩)
  have GG1 := GG.keep hb1 lw
  have lw1 := hb1.size
  clear g0 g1 g2 g3 g4
  obtain ⟨g0, g1, g2, g3, g4⟩ := id GG1
  go_upto_region 6 with (go_at_call 11; (with_reducible refine (HBY.out _ hb1).mono ?_); rintro e w2 ⟨⟨X, xc, rfl, hxo⟩, hb2⟩)
  have GG2 := GG1.keep hb2 (by omega)
  have hw2 := bt hw (bt hb1 hb2)
  have lw2 := hb2.size
  obtain ⟨g, xc', hv2, hc1, hc2, hgb, hgs⟩ := hxo.at (by decide)
  have hv3 : X = some ⟨g, 0, none⟩ ∧ xc = xc' := by
    simp only [Value.slice.injEq] at hv2
    exact ⟨hv2.1, hv2.2.2⟩
  obtain ⟨rfl, rfl⟩ := hv3
  clear hv2 hb1 hb2 GG1 GG g0 g1 g2 g3 g4 HBY hw
  have HXO := Lib.hid hxo
  clear hxo
  go_upto_region 7 with fail
  go_loop [9] (fun i => ∃ k : Nat, k ≤ 11 ∧ i = .int .i64 k) (fun i => 11 - (RowKit.intOf i).toNat)
  case atStart => exact ⟨0, by omega, rfl⟩
  case round =>
    obtain ⟨i, hi, rfl⟩ := hrel
    by_cases hlt : i < 11
    · have j1 : (i : Int) < 11 := by omega
      have hcl := HXO.out.cell i hlt
      rw [z11_get i hlt] at hcl
      have hcl2 : w2.cell? ⟨g, i, none⟩ = some (.int .u8 0) := hcl
      clear hcl
      go_wp2_with fail
      go_round
      case rel => exact ⟨i + 1, by omega, by go_num⟩
      case measure => simp [RowKit.intOf]; omega
    have j1 : ¬ (i : Int) < 11 := by omega
    have hxs : Sl w2 w2.heap.size (some ⟨g, 0, none⟩) z11 := (own_bytes HXO.out).2.2.2
    have HRD := Lib.hid (show Calls Try.prog 12 #[.agg #[.int .i64 z, .int .i64 d, .int .i64 s, .int .i64 l, .int .i64 a], .slice (some ⟨g, 0, none⟩) 11 xc] w2 fun e w' => (∃ (Y : Option Addr) (c : Nat), e = .returned (.tuple #[.agg #[.int .i64 0, .int .i64 0, .int .i64 0, .int .i64 0, .int .i64 0, .int .i64 0, .int .i64 0, .slice Y 0 c], .int .i64 0])) ∧ Below w2.heap.size w2 w' from by
      have h9 := HC.out.read z d s l a (some ⟨g, 0, none⟩) 11 xc z11 w2 hw2 HO.out rfl hc1 hc2 (by decide) hxs (by rw [← enc_no]; exact rdOk_of (no_ok z d) hz4 hd)
      rw [← enc_no, (recN_of (no_ok z d) hz4 hd).1] at h9
      refine h9.mono ?_
      rintro e w' ⟨⟨Y, c, rfl, -⟩, hb⟩
      exact ⟨⟨Y, c, rfl⟩, hb⟩)
    obtain ⟨g0, g1, g2, g3, g4⟩ := id GG2
    clear hxs
    go_upto_region 12 with (go_at_call 12; (with_reducible refine HRD.out.mono ?_); rintro e w4 ⟨⟨Y, yc, rfl⟩, hb4⟩)
    have hxY := bl w4 (.cells #[.int .i64 0, .int .i64 0, .int .i64 0, .int .i64 0, .int .i64 0, .int .i64 0, .int .i64 0, .slice Y 0 yc] 28)
    have YY := c8_new w4 (.int .i64 0) (.int .i64 0) (.int .i64 0) (.int .i64 0) (.int .i64 0) (.int .i64 0) (.int .i64 0) (.slice Y 0 yc) 28
    have b45 := bt hb4 hxY
    have lw4 := hb4.size
    have GG5 := GG2.keep b45 (by omega)
    have hw5 := bt hw2 b45
    have HX5 := Lib.hid (HXO.out.below b45)
    have ly : w4.heap.size < (w4.alloc (.cells #[.int .i64 0, .int .i64 0, .int .i64 0, .int .i64 0, .int .i64 0, .int .i64 0, .int .i64 0, .slice Y 0 yc] 28)).heap.size := by simp
    clear hb4 hxY b45 HRD HXO GG2 g0 g1 g2 g3 g4 hw2
    generalize hgy : w4.heap.size = gy at *
    clear hgy
    generalize w4.alloc (.cells #[.int .i64 0, .int .i64 0, .int .i64 0, .int .i64 0, .int .i64 0, .int .i64 0, .int .i64 0, .slice Y 0 yc] 28) = w5 at *
    have hcl := HX5.out.cell (k + 1) (show k + 1 < z11.length by show k + 1 < 11; omega)
    have hfl := HX5.out.frozen rfl (k + 1)
    have HST := Lib.hid ((HX5.out.store (n := 11) rfl (k + 1) v).1)
    have i0 : (0 : Int) ≤ ((k + 1 : Nat) : Int) := by omega
    have i1 : ((k + 1 : Nat) : Int) < 11 := by omega
    have q10 : ((10 : Int) == 0) = false := rfl
    go_upto_region 13 with fail
    have YY6 : C8 (w5.setCell ⟨g, k + 1, none⟩ (.int .u8 v.toNat)) gy (.int .i64 0) (.int .i64 0) (.int .i64 0) (.int .i64 0) (.int .i64 0) (.int .i64 0) (.int .i64 0) (.slice Y 0 yc) := YY.apart (by omega) _
    have GG6 := GG5.set (g' := g) (o := k + 1) (by omega) (.int .u8 v.toNat)
    have hw6 := hw5.setCell (p := ⟨g, k + 1, none⟩) (show w.heap.size ≤ g by omega) (.int .u8 v.toNat)
    have ly6 : gy < (w5.setCell ⟨g, k + 1, none⟩ (.int .u8 v.toNat)).heap.size := by rw [World.size_setCell]; exact ly
    have lw6 : w.heap.size < (w5.setCell ⟨g, k + 1, none⟩ (.int .u8 v.toNat)).heap.size := by omega
    change Hid (Own (w5.setCell ⟨g, k + 1, none⟩ (.int .u8 v.toNat)) _ _ _ _) at HST
    clear YY GG5 hw5 HX5 hcl hfl
    generalize (w5.setCell ⟨g, k + 1, none⟩ (.int .u8 v.toNat)) = w6 at *
    obtain ⟨g0, g1, g2, g3, g4⟩ := id GG6
    have hsl := (own_bytes HST.out).2.2.2
    have hl11 : (z11.set (k + 1) v).length = 11 := by rw [List.length_set]; rfl
    obtain ⟨y0, y1, -, -, -, -, -, -⟩ := id YY6
    have HRD2 : Hid (∃ h : Int, ((h == 0) = ((v.toNat : Int) == 0)) ∧ (Calls Try.prog 12 #[.agg #[.int .i64 z, .int .i64 d, .int .i64 s, .int .i64 l, .int .i64 a], .slice (some ⟨g, 0, none⟩) 11 xc] w6 fun e w' => (∃ (kd sq ep ps nm zn wh : Int) (Y : Option Addr) (n c : Nat), e = .returned (.tuple #[.agg #[.int .i64 kd, .int .i64 sq, .int .i64 ep, .int .i64 ps, .int .i64 nm, .int .i64 zn, .int .i64 wh, .slice Y n c], .int .i64 h])) ∧ Below w6.heap.size w6 w')) := Lib.hid (by
      by_cases hv0 : v = 0
      · have hz : z11.set (k + 1) v = z11 := by
          rw [hv0]
          refine List.ext_getElem (by rw [List.length_set]) fun i h1 h2 => ?_
          rw [List.getElem_set]
          split
          · exact (z11_get i h2).symm
          · rfl
        rw [hz] at hsl
        refine ⟨0, by rw [hv0]; rfl, ?_⟩
        have h9 := HC.out.read z d s l a (some ⟨g, 0, none⟩) 11 xc z11 w6 hw6 HO.out rfl hc1 hc2 (by decide) hsl (by rw [← enc_no]; exact rdOk_of (no_ok z d) hz4 hd)
        refine h9.mono ?_
        rintro e w' ⟨⟨Y, c, rfl, -⟩, hb⟩
        exact ⟨⟨_, _, _, _, _, _, _, Y, _, c, rfl⟩, hb⟩
      · refine ⟨4, ?_, ?_⟩
        · have : v.toNat ≠ 0 := fun h => hv0 (UInt8.toNat_inj.1 h)
          exact (beq_eq_false_iff_ne.2 (by decide)).trans (beq_eq_false_iff_ne.2 (by omega)).symm
        have h9 := HC.out.read_no 4 z d s l a (some ⟨g, 0, none⟩) 11 xc _ w6 hw6 (.inr ⟨HO.out, fun h => hv0 (blank_set (by omega) (by omega) h), rfl⟩) hl11 hc1 hc2 (by decide) hsl
        refine h9.mono ?_
        rintro e w' ⟨⟨Y, c, -, rfl⟩, hb⟩
        exact ⟨⟨_, _, _, _, _, _, _, Y, _, c, rfl⟩, hb⟩)
    obtain ⟨h, hhv, HRE⟩ := HRD2.out
    have HRF := Lib.hid HRE
    have HHV := Lib.hid hhv
    have HWK := Lib.hid (fun W (hW : Below w.heap.size w W) => wk_rec W (HC.out.next hW))
    clear HRE HRD2 hsl hl11 hhv HST
    go_upto_region 14 with (go_at_call 12; (with_reducible refine HRF.out.mono ?_); rintro e w7 ⟨⟨kd, sq, ep, ps, nm, zn, wh, Y2, n2, yc2, rfl⟩, hb7⟩)
    have hxZ := bl w7 (.cells #[.int .i64 kd, .int .i64 sq, .int .i64 ep, .int .i64 ps, .int .i64 nm, .int .i64 zn, .int .i64 wh, .slice Y2 n2 yc2] 28)
    have b68 := bt hb7 hxZ
    replace y0 := kst b68 ly6 y0
    replace y1 := kst b68 ly6 y1
    have hw8 := bt hw6 b68
    clear hb7 hxZ b68 YY6 GG6 g0 g1 g2 g3 g4 hw6 HRF
    generalize w7.alloc (.cells #[.int .i64 kd, .int .i64 sq, .int .i64 ep, .int .i64 ps, .int .i64 nm, .int .i64 zn, .int .i64 wh, .slice Y2 n2 yc2] 28) = w8 at *
    have hq : (((h == 0) == ((v.toNat : Int) == 0)) = true) := by rw [HHV.out]; exact beq_self_eq_true _
    clear HHV
    go_wp2_with (go_at_call 20; (with_reducible refine (HWK.out _ hw8).mono ?_); rintro e w9 ⟨rfl, hb9⟩)
    go_ret
    exact ⟨rfl, bt hw8 hb9⟩
/-- The law. -/
theorem blanks_law (z d s l a av : Int) (v : UInt8) (w : World) (hc : Crd w) :
    Calls Try.prog 8 #[.agg #[.int .i64 z, .int .i64 d, .int .i64 s, .int .i64 l, .int .i64 a], .int .i64 av, .int .u8 v.toNat] w fun e w' => e = .returned (.bool true) ∧ Below w.heap.size w w' := by
  by_cases ho : Ok z d s l a
  · exact rb_main z d s l a av v w hc ho
  have HGO := Lib.hid fun W => gmt.rgeo_at false z d s l a W (iff_of_false Bool.false_ne_true ho)
  clear hc ho
  have GG := g5_new w z d s l a
  have hw := bl w (.cells #[.int .i64 z, .int .i64 d, .int .i64 s, .int .i64 l, .int .i64 a] 23)
  go_enter Try.func8, Try.ntmps8
  go_upto_region 1 with fail
  generalize w.alloc (.cells #[.int .i64 z, .int .i64 d, .int .i64 s, .int .i64 l, .int .i64 a] 23) = w0 at *
  obtain ⟨g0, g1, g2, g3, g4⟩ := id GG
  go_wp2_with (go_at_call 16; (with_reducible refine (HGO.out _).mono ?_); rintro e w1 ⟨rfl, hb1⟩)
  go_ret
  exact ⟨rfl, bt hw hb1⟩
end Go.Proofs.Ytplhdnhigboeaaa.lrc
