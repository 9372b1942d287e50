/-
  The law AnchorFirst: a new volume's anchor is right; each block is where it is counted. Conditions: 'ValidOk', 'CloneOk', 'Tabs'.
-/
import Derived.Test.YtkpbfhjpmhgmoaaDoorAnW
namespace Go.Proofs.YtkpbfhjpmhgmoaaDoor.anc
open Go.RowKit Go.Lib
open Go.Proofs.YtkpbfhjpmhgmoaaDoor.gmt (Ok five_new some_any)
open Go.Proofs.YtkpbfhjpmhgmoaaDoor.lbl (encL readL labE lab_len ValidOk CloneOk Tabs)

theorem af_long (v1 v2 v3 v4 v5 : Int) (lab : ByteArray) (w : World) (h : 100 < lab.size) (hs : lab.size ≤ maxLen) :
    Calls Tryd.prog 5 #[.int .i64 v1, .int .i64 v2, .int .i64 v3, .int .i64 v4, .int .i64 v5, .string lab] w fun e w' => e = .returned (.bool true) ∧ Below w.heap.size w w' := by
  unfold maxLen at hs
  have i1 : (100 : Int) < (lab.size : Int) := by omega
  go_enter Tryd.func5, Tryd.ntmps5
  go_wp2
  go_ret
  exact ⟨rfl, Below.refl _ _⟩
theorem labE_cases {l : List UInt8} (h : labE l ≠ 0) : labE l = 3 ∨ labE l = 2 := by
  unfold labE at h ⊢
  split
  · exact .inl rfl
  · split
    · exact .inr rfl
    · rename_i h1 h2
      rw [if_neg h1, if_neg h2] at h
      exact absurd rfl h
set_option maxRecDepth 100000 in
set_option maxHeartbeats 4000000 in
theorem af_err3 (hV : ValidOk) (hC : CloneOk) (v1 v2 v3 v4 v5 : Int) (lab : ByteArray) (w : World) (hs : lab.size ≤ 100) (hT : Tabs w) (hE : labE lab.data.toList = 3) :
    Calls Tryd.prog 5 #[.int .i64 v1, .int .i64 v2, .int .i64 v3, .int .i64 v4, .int .i64 v5, .string lab] w fun e w' => e = .returned (.bool true) ∧ Below w.heap.size w w' := by
  have i1 : (lab.size : Int) ≤ 100 := by omega
  have HT := Lib.hid hT
  have cF : ∀ z d s l a, Ok z d s l a → ∀ W, Below w.heap.size w W → Calls Tryd.prog 11 #[.agg #[.int .i64 z, .int .i64 d, .int .i64 s, .int .i64 l, .int .i64 a], .string lab] W fun e w' => AnsA W.heap.size noAnc 3 e w' ∧ Below W.heap.size W w' := fun z d s l a ho W hW => by
    have := first_err hV z d s l a lab W (tn HT.out hW) ho (by omega) (by rw [hE]; decide)
    rwa [hE] at this
  have HF := Lib.hid cF
  clear cF hT hE
  go_enter Tryd.func5, Tryd.ntmps5
  go_upto_region 4 with (go_at_call 25; (with_reducible refine (some_any _ _ _ _ _ _).mono ?_); rintro e w1 ⟨⟨z, d, s, l, a, ho, rfl⟩, hb1⟩)
  have hx1 := bl w1 (.cells #[.int .i64 z, .int .i64 d, .int .i64 s, .int .i64 l, .int .i64 a] 23)
  have GG := g5_new w1 z d s l a
  have B1 := bt hb1 hx1
  obtain ⟨gG, hgG⟩ : ∃ g, g = w1.heap.size := ⟨_, rfl⟩
  rw [← hgG] at GG ⊢
  have lG : gG < (w1.alloc (.cells #[.int .i64 z, .int .i64 d, .int .i64 s, .int .i64 l, .int .i64 a] 23)).heap.size := by rw [hgG]; simp
  clear hb1 hx1 hgG
  generalize w1.alloc (.cells #[.int .i64 z, .int .i64 d, .int .i64 s, .int .i64 l, .int .i64 a] 23) = w2 at *
  obtain ⟨g0, g1, g2, g3, g4⟩ := id GG
  go_upto_region 5 with (go_at_call 11; (with_reducible refine (HF.out _ _ _ _ _ ho _ B1).mono ?_); rintro e w3 ⟨⟨x, hex, -, -⟩, hb3⟩; rw [AV.v] at hex; subst hex)
  have hx3 := bl w3 (.cells #[.int .i64 x.gen, .int .i64 x.ep, .int .i64 x.pos, .int .i64 x.seq, .int .i64 x.last, .string x.lab, .slice x.HA x.hs.length x.hc] 26)
  have B3 := bt (bt B1 hb3) hx3
  clear g0 g1 g2 g3 g4 GG B1 lG hb3 hx3 HF
  generalize w3.alloc (.cells #[.int .i64 x.gen, .int .i64 x.ep, .int .i64 x.pos, .int .i64 x.seq, .int .i64 x.last, .string x.lab, .slice x.HA x.hs.length x.hc] 26) = w4 at *
  go_wp2_with (go_at_call 17; (with_reducible refine (wk_anc hV hC _ (tn HT.out B3)).mono ?_); rintro e w5 ⟨rfl, hb5⟩)
  go_ret
  exact ⟨rfl, bt B3 hb5⟩
set_option maxRecDepth 100000 in
set_option maxHeartbeats 4000000 in
theorem af_err2 (hV : ValidOk) (hC : CloneOk) (v1 v2 v3 v4 v5 : Int) (lab : ByteArray) (w : World) (hs : lab.size ≤ 100) (hT : Tabs w) (hE : labE lab.data.toList = 2) :
    Calls Tryd.prog 5 #[.int .i64 v1, .int .i64 v2, .int .i64 v3, .int .i64 v4, .int .i64 v5, .string lab] w fun e w' => e = .returned (.bool true) ∧ Below w.heap.size w w' := by
  have i1 : (lab.size : Int) ≤ 100 := by omega
  have HT := Lib.hid hT
  have cF : ∀ z d s l a, Ok z d s l a → ∀ W, Below w.heap.size w W → Calls Tryd.prog 11 #[.agg #[.int .i64 z, .int .i64 d, .int .i64 s, .int .i64 l, .int .i64 a], .string lab] W fun e w' => AnsA W.heap.size noAnc 2 e w' ∧ Below W.heap.size W w' := fun z d s l a ho W hW => by
    have := first_err hV z d s l a lab W (tn HT.out hW) ho (by omega) (by rw [hE]; decide)
    rwa [hE] at this
  have HF := Lib.hid cF
  clear cF hT hE
  go_enter Tryd.func5, Tryd.ntmps5
  go_upto_region 4 with (go_at_call 25; (with_reducible refine (some_any _ _ _ _ _ _).mono ?_); rintro e w1 ⟨⟨z, d, s, l, a, ho, rfl⟩, hb1⟩)
  have hx1 := bl w1 (.cells #[.int .i64 z, .int .i64 d, .int .i64 s, .int .i64 l, .int .i64 a] 23)
  have GG := g5_new w1 z d s l a
  have B1 := bt hb1 hx1
  obtain ⟨gG, hgG⟩ : ∃ g, g = w1.heap.size := ⟨_, rfl⟩
  rw [← hgG] at GG ⊢
  have lG : gG < (w1.alloc (.cells #[.int .i64 z, .int .i64 d, .int .i64 s, .int .i64 l, .int .i64 a] 23)).heap.size := by rw [hgG]; simp
  clear hb1 hx1 hgG
  generalize w1.alloc (.cells #[.int .i64 z, .int .i64 d, .int .i64 s, .int .i64 l, .int .i64 a] 23) = w2 at *
  obtain ⟨g0, g1, g2, g3, g4⟩ := id GG
  go_upto_region 5 with (go_at_call 11; (with_reducible refine (HF.out _ _ _ _ _ ho _ B1).mono ?_); rintro e w3 ⟨⟨x, hex, -, -⟩, hb3⟩; rw [AV.v] at hex; subst hex)
  have hx3 := bl w3 (.cells #[.int .i64 x.gen, .int .i64 x.ep, .int .i64 x.pos, .int .i64 x.seq, .int .i64 x.last, .string x.lab, .slice x.HA x.hs.length x.hc] 26)
  have B3 := bt (bt B1 hb3) hx3
  clear g0 g1 g2 g3 g4 GG B1 lG hb3 hx3 HF
  generalize w3.alloc (.cells #[.int .i64 x.gen, .int .i64 x.ep, .int .i64 x.pos, .int .i64 x.seq, .int .i64 x.last, .string x.lab, .slice x.HA x.hs.length x.hc] 26) = w4 at *
  go_wp2_with (go_at_call 17; (with_reducible refine (wk_anc hV hC _ (tn HT.out B3)).mono ?_); rintro e w5 ⟨rfl, hb5⟩)
  go_ret
  exact ⟨rfl, bt B3 hb5⟩
set_option maxRecDepth 100000 in
set_option maxHeartbeats 8000000 in
theorem af_ok (hV : ValidOk) (hC : CloneOk) (v1 v2 v3 v4 v5 : Int) (lab : ByteArray) (w : World) (hsz : lab.size ≤ 100) (hT : Tabs w) (hE : labE lab.data.toList = 0) :
    Calls Tryd.prog 5 #[.int .i64 v1, .int .i64 v2, .int .i64 v3, .int .i64 v4, .int .i64 v5, .string lab] w fun e w' => e = .returned (.bool true) ∧ Below w.heap.size w w' := by
  have i1 : (lab.size : Int) ≤ 100 := by omega
  have HT := Lib.hid hT
  have cF : ∀ z d s l a, Ok z d s l a → ∀ W, Below w.heap.size w W → Calls Tryd.prog 11 #[.agg #[.int .i64 z, .int .i64 d, .int .i64 s, .int .i64 l, .int .i64 a], .string lab] W fun e w' => AnsA W.heap.size (firstA z d lab) 0 e w' ∧ Below W.heap.size W w' := fun z d s l a ho W hW => first_yes hV z d s l a hC lab W (tn HT.out hW) ho (by omega) hE
  have HF := Lib.hid cF
  have HE := Lib.hid hE
  clear cF hT hE
  go_enter Tryd.func5, Tryd.ntmps5
  go_upto_region 4 with (go_at_call 25; (with_reducible refine (some_any _ _ _ _ _ _).mono ?_); rintro e w1 ⟨⟨z, d, s, l, a, ho, rfl⟩, hb1⟩)
  have hx1 := bl w1 (.cells #[.int .i64 z, .int .i64 d, .int .i64 s, .int .i64 l, .int .i64 a] 23)
  have GG := g5_new w1 z d s l a
  have B1 := bt hb1 hx1
  obtain ⟨gG, hgG⟩ : ∃ g, g = w1.heap.size := ⟨_, rfl⟩
  rw [← hgG] at GG ⊢
  have lG : gG < (w1.alloc (.cells #[.int .i64 z, .int .i64 d, .int .i64 s, .int .i64 l, .int .i64 a] 23)).heap.size := by rw [hgG]; simp
  clear hb1 hx1 hgG
  generalize w1.alloc (.cells #[.int .i64 z, .int .i64 d, .int .i64 s, .int .i64 l, .int .i64 a] 23) = w2 at *
  obtain ⟨g0, g1, g2, g3, g4⟩ := id GG
  go_upto_region 5 with (go_at_call 11; (with_reducible refine (HF.out _ _ _ _ _ ho _ B1).mono ?_); rintro e w3 ⟨⟨x, hex, hxd, hxo⟩, hb3⟩; rw [AV.v] at hex; subst hex)
  have hx3 := bl w3 (.cells #[.int .i64 x.gen, .int .i64 x.ep, .int .i64 x.pos, .int .i64 x.seq, .int .i64 x.last, .string x.lab, .slice x.HA x.hs.length x.hc] 26)
  have B3 := bt (bt B1 hb3) hx3
  have G3 := (GG.keep hb3 lG).keep hx3 (by have := hb3.size; omega)
  have FF := ac_new w3 x
  have lG3 : gG < w3.heap.size := by have := hb3.size; omega
  have hxin := AV.Own.inn (OwnH.below hxo hx3)
  obtain ⟨gA, hgA⟩ : ∃ g, g = w3.heap.size := ⟨_, rfl⟩
  rw [← hgA] at FF lG3 ⊢
  have lA : gA < (w3.alloc (.cells #[.int .i64 x.gen, .int .i64 x.ep, .int .i64 x.pos, .int .i64 x.seq, .int .i64 x.last, .string x.lab, .slice x.HA x.hs.length x.hc] 26)).heap.size := by rw [hgA]; simp
  have HXD := Lib.hid hxd
  have cC : ∀ W, Below w.heap.size w W → x.In W W.heap.size → Calls Tryd.prog 15 #[.agg #[.int .i64 z, .int .i64 d, .int .i64 s, .int .i64 l, .int .i64 a], x.v] W fun e w' => e = .returned (.int .i64 0) ∧ Below W.heap.size W w' := fun W hW hi =>
    check_p hV z d s l a true x W (tn HT.out hW) ho hi (by have e : x.lab = lab := congrArg Anc.lab HXD.out; rw [e]; omega) (iff_of_true rfl (by rw [HXD.out]; exact first_good ho HE.out))
  clear g0 g1 g2 g3 g4 GG B1 lG hb3 hx3 hxo HF hgA
  generalize w3.alloc (.cells #[.int .i64 x.gen, .int .i64 x.ep, .int .i64 x.pos, .int .i64 x.seq, .int .i64 x.last, .string x.lab, .slice x.HA x.hs.length x.hc] 26) = w4 at *
  obtain ⟨gen, ep, pos, seq, last, lab', HA, hc, hs⟩ := x
  unfold AV.v at cC
  simp only [AV.d, firstA, Anc.mk.injEq] at hxd
  obtain ⟨rfl, rfl, rfl, rfl, rfl, rfl, hhs⟩ := hxd
  have HC := Lib.hid cC
  have HHS := Lib.hid hhs
  obtain ⟨Z, rfl⟩ : ∃ Z : Nat, z = Z := ⟨z.toNat, by have := ho.1; omega⟩
  obtain ⟨D, rfl⟩ : ∃ D : Nat, d = D := ⟨d.toNat, by have := ho.2.1; omega⟩
  have hlen : hs.length = Z := by have := congrArg List.length hhs; rwa [hds_length, List.length_replicate, Int.toNat_natCast] at this
  obtain ⟨o1, o2, -⟩ := id ho
  have HI := Lib.hid hxin
  have HO := Lib.hid ho
  obtain ⟨g0, g1, g2, g3, g4⟩ := id G3
  obtain ⟨c0, c1, c2, c3, c4, c5, c6⟩ := id FF
  have q1 : ((hs.length : Int) != (Z : Int)) = false := by rw [hlen]; exact bne_self_eq_false _
  have q2 : (lab'.toList != lab'.toList) = false := bne_self_eq_false _
  have HLN := Lib.hid hlen
  clear cC hhs hlen ho hxin HXD
  go_upto_region 9 with (go_at_call 15; (with_reducible refine (HC.out _ B3 HI.out).mono ?_); rintro e w5 ⟨rfl, hb5⟩; replace c0 := kst hb5 lA c0; replace c1 := kst hb5 lA c1; replace c2 := kst hb5 lA c2; replace c3 := kst hb5 lA c3; replace c4 := kst hb5 lA c4; replace c5 := kst hb5 lA c5; replace c6 := kst hb5 lA c6; replace g0 := kst hb5 (by omega) g0)
  have B5 := bt B3 hb5
  have HI5 := Lib.hid (AV.In.next HI.out hb5)
  replace G3 := G3.keep hb5 (by omega)
  replace FF := FF.keep hb5 lA
  have lA5 : gA < w5.heap.size := by have := hb5.size; omega
  clear g0 g1 g2 g3 g4 c0 c1 c2 c3 c4 c5 c6 q1 q2 HC B3 HI hb5 lA
  go_wp2_with fail
  go_loopw [16] (fun i w' => ∃ k : Nat, k ≤ Z ∧ i = .int .i64 k ∧ Below w5.heap.size w5 w') (fun i _ => Z - (RowKit.intOf i).toNat)
  case atStart => exact ⟨0, by omega, rfl, Below.refl _ _⟩
  case round =>
    obtain ⟨w6, rfl⟩ : ∃ x, x = wr := ⟨wr, rfl⟩
    obtain ⟨k, hk, rfl, hbr⟩ := hrel
    have l6 := hbr.size
    obtain ⟨g0, g1, -, -, -⟩ := id (G3.keep hbr (by omega))
    have c6 := (FF.keep hbr lA5).c6
    have hbw := bt B5 hbr
    by_cases hlt : k < Z
    · have i2 : (k : Int) < (Z : Int) := by omega
      have i3 : (k : Int) < (hs.length : Int) := by have := HLN.out; omega
      have hI := AV.In.next HI5.out hbr
      obtain ⟨b1, off, r, hHA, hbb, r0, r1, r2, m1, -, -, e1⟩ := home_at hI.hh hI.hi (show k < hs.length by have := HLN.out; omega)
      have hHA' : HA = some ⟨b1, off, none⟩ := hHA
      rw [hHA'] at c6
      have hrd : r.d = newH D := by rw [HHS.out, Int.toNat_natCast, List.getElem?_replicate, if_pos hlt] at e1; exact (Option.some.inj e1).symm
      obtain ⟨A, c, ps, nx, rt⟩ := r
      simp only [HomR.d, newH, Hom.mk.injEq, Int.toNat_natCast] at hrd
      obtain ⟨rfl, rfl, rfl⟩ := hrd
      have hpl := upto_length (D + 1)
      rw [hpl] at r0
      have HPL := Lib.hid hpl
      have hcc : D + 1 ≤ c := by have := m1.2.1; rwa [show (upto (D + 1)).length = D + 1 from upto_length _] at this
      have HM := Lib.hid m1
      clear e1 hHA hHA' hI hpl m1
      go_upto_region 13 with fail
      have hbh := bl w6 (.cells #[.slice A (D + 1 : Nat) c, .int .i64 ((D : Int) + 1), .int .i64 0] 54)
      have n0 : (w6.alloc (.cells #[.slice A (D + 1 : Nat) c, .int .i64 ((D : Int) + 1), .int .i64 0] 54)).cell? ⟨w6.heap.size, 0, none⟩ = some (.slice A (D + 1 : Nat) c) := by rw [cell_of_row _ _ _ _ _ _ (heap_alloc_new w6 _)]; rfl
      have n1 : (w6.alloc (.cells #[.slice A (D + 1 : Nat) c, .int .i64 ((D : Int) + 1), .int .i64 0] 54)).cell? ⟨w6.heap.size, 1, none⟩ = some (.int .i64 ((D : Int) + 1)) := by rw [cell_of_row _ _ _ _ _ _ (heap_alloc_new w6 _)]; rfl
      have n2 : (w6.alloc (.cells #[.slice A (D + 1 : Nat) c, .int .i64 ((D : Int) + 1), .int .i64 0] 54)).cell? ⟨w6.heap.size, 2, none⟩ = some (.int .i64 0) := by rw [cell_of_row _ _ _ _ _ _ (heap_alloc_new w6 _)]; rfl
      replace g1 := kst hbh (by omega) g1
      have HM2 := Lib.hid (show SlV _ _ A (ints (upto (D + 1))) from (HM.out.next hbh).1)
      have hb7 := bt hbr hbh
      clear g0 c6 r0 r1 r2 hbb hbh HM
      generalize w6.alloc (.cells #[.slice A (D + 1 : Nat) c, .int .i64 ((D : Int) + 1), .int .i64 0] 54) = w7 at *
      have q3 : (((D + 1 : Nat) : Int) != (D : Int) + 1) = false := by rw [show ((D + 1 : Nat) : Int) = (D : Int) + 1 by omega]; exact bne_self_eq_false _
      have q4 : ((D : Int) + 1 != (D : Int) + 1) = false := bne_self_eq_false _
      go_wp2_with fail
      go_loop [18] (fun i => ∃ q : Nat, q ≤ D + 1 ∧ i = .int .i64 q) (fun i => D + 1 - (RowKit.intOf i).toNat)
      case atStart => exact ⟨0, by omega, rfl⟩
      case round =>
        obtain ⟨q, hq, rfl⟩ := hrel
        by_cases hqt : q < D + 1
        · obtain ⟨b3, o3, hA3, hb3, hc3⟩ := HM2.out (by rw [ints_length]; have := HPL.out; omega)
          have hA3' : A = some ⟨b3, o3, none⟩ := hA3
          rw [hA3'] at n0
          have s0 := hc3 q (by rw [ints_length]; have := HPL.out; omega)
          rw [ints_get, upto_get] at s0
          have j1 : (q : Int) < (D : Int) + 1 := by omega
          have j2 : (0 : Int) ≤ (q : Int) := by omega
          have q5 : ((q : Int) != (q : Int)) = false := bne_self_eq_false _
          clear hc3 hA3 hA3'
          go_wp2_with fail
          go_round
          case rel => exact ⟨q + 1, by omega, by go_num⟩
          case measure => simp [RowKit.intOf]; omega
        · have j1 : ¬ (q : Int) < (D : Int) + 1 := by omega
          go_wp2_with fail
          go_roundw
          case rel => exact ⟨k + 1, by omega, by go_num, hb7⟩
          case measure => simp [RowKit.intOf]; omega
    · have i2 : ¬ (k : Int) < (Z : Int) := by omega
      go_wp2_with (go_at_call 17; (with_reducible refine (wk_anc hV hC _ (tn HT.out hbw)).mono ?_); rintro e w8 ⟨rfl, hb8⟩)
      go_ret
      exact ⟨rfl, bt hbw hb8⟩
theorem anchorFirst_law (hV : ValidOk) (hC : CloneOk) (v1 v2 v3 v4 v5 : Int) (lab : ByteArray) (w : World) (hs : lab.size ≤ maxLen) (hT : Tabs w) :
    Calls Tryd.prog 5 #[.int .i64 v1, .int .i64 v2, .int .i64 v3, .int .i64 v4, .int .i64 v5, .string lab] w fun e w' => e = .returned (.bool true) ∧ Below w.heap.size w w' := by
  by_cases h : 100 < lab.size
  · exact af_long v1 v2 v3 v4 v5 lab w h hs
  · by_cases hE : labE lab.data.toList = 0
    · exact af_ok hV hC v1 v2 v3 v4 v5 lab w (by omega) hT hE
    · rcases labE_cases hE with h3 | h2
      · exact af_err3 hV hC v1 v2 v3 v4 v5 lab w (by omega) hT h3
      · exact af_err2 hV hC v1 v2 v3 v4 v5 lab w (by omega) hT h2
end Go.Proofs.YtkpbfhjpmhgmoaaDoor.anc
