/-
  The document's own reading of an anchor: bytes of as many as an anchor has. Conditions: a right geometry, not more bytes than the statements play.
-/
import Derived.Test.YtkpbfhjpmhgmoaaDoorAnRA
import Derived.Test.YtkpbfhjpmhgmoaaDoorTail
namespace Go.Proofs.YtkpbfhjpmhgmoaaDoor.anc
open Go.RowKit Go.Lib
open Go.Proofs.YtkpbfhjpmhgmoaaDoor.gmt (Ok five_new)
open Go.Proofs.YtkpbfhjpmhgmoaaDoor.pck (num ref_get)
open Go.Proofs.YtkpbfhjpmhgmoaaDoor.lbl (encL readL labE lab_len)

theorem num_one (x : UInt8) (l : List UInt8) : num ((x :: l).take 1) = x.toNat := by simp [num]
/-- The first bytes, as numbers. -/
def plN (l : List UInt8) (j : Nat) : List Int := (l.take j).map (fun x => (x.toNat : Int))
theorem plN_len {l : List UInt8} {j : Nat} (h : j ≤ l.length) : (plN l j).length = j := by unfold plN; rw [List.length_map, List.length_take]; omega
theorem bytes_next {l : List UInt8} {t : Nat} (ht : t < l.length) : plN l (t + 1) = plN l t ++ [(l[t].toNat : Int)] := by
  unfold plN
  rw [List.take_succ_eq_append_getElem ht, List.map_append]
  rfl
theorem ints_add (a : List Int) (x : Int) : ints (a ++ [x]) = ints a ++ [.int .i64 x] := by simp [ints]

set_option maxRecDepth 100000 in
set_option maxHeartbeats 8000000 in
theorem rread_go (Z D : Nat) (s l a : Int) (A : Option Addr) (c n : Nat) (b : List UInt8) (w : World) (hn : b.length = n) (h18 : 18 ≤ n) (hA : Sl w w.heap.size A b) (hm : n ≤ c) (hmax : c ≤ maxLen) (t : List UInt8) (h : readL (b.drop 17) = some t) (ho : Ok Z D s l a) (hl : (b.drop (18 + t.length)).length = Z * (D + 6)) (hn3 : n ≤ 300) (x : Anc) (hx : ancN b t (homesN D (b.drop (18 + t.length)) Z) = x) (g : Bool) (hg : g = true ↔ Good Z D s l x) :
    Calls Tryd.prog 20 #[.agg #[.int .i64 Z, .int .i64 D, .int .i64 s, .int .i64 l, .int .i64 a], .slice A n c] w fun e w' => RdQ w.heap.size (if g = true then x else noAnc) g e w' ∧ Below w.heap.size w w' := by
  have HG := Lib.hid hg
  have HXX := Lib.hid hx
  clear hg hx
  obtain ⟨bb, off, rfl, hbb, hcb⟩ := id (hA (by omega))
  have hb16 := hcb 16 (by omega)
  unfold by8 at hb16
  have hx16 := b[16].toNat_lt
  have HSL := Lib.hid (show ∀ (k : Nat) (W : World), Below w.heap.size w W → Sl W w.heap.size (some ⟨bb, off + k, none⟩) (b.drop k) from fun k W h => (hA.below h).drop k)
  have cg : ∀ (k : Nat), k ≤ 12 → ∀ W, Below w.heap.size w W → Calls Tryd.prog 26 #[.slice (some ⟨bb, off + k, none⟩) (n - k) (c - k), .int .i64 4] W fun e w' => e = .returned (.int .i64 (num ((b.drop k).take 4))) ∧ W = w' := fun k hk W hW =>
    ref_get 4 (n - k) _ (c - k) _ (b.drop k) W (by omega) (by rw [List.length_drop, hn]) (by omega) (HSL.out k W hW)
  have d0 := cg 0 (by omega)
  have d4 := cg 4 (by omega)
  have d8 := cg 8 (by omega)
  have d12 := cg 12 (by omega)
  simp only [Nat.sub_zero, Nat.add_zero, List.drop_zero] at d0
  have D0 := Lib.hid d0
  have D4 := Lib.hid d4
  have D8 := Lib.hid d8
  have D12 := Lib.hid d12
  clear cg d0 d4 d8 d12 hcb
  unfold maxLen at hmax
  have i1 : ¬ (n : Int) < 18 := by omega
  have i2 : (4 : Int) ≤ (n : Int) := by omega
  have i3 : (8 : Int) ≤ (n : Int) := by omega
  have i4 : (12 : Int) ≤ (n : Int) := by omega
  have i5 : (16 : Int) < (n : Int) := by omega
  have j2 : (4 : Int) ≤ (c : Int) := by omega
  have j3 : (8 : Int) ≤ (c : Int) := by omega
  have j4 : (12 : Int) ≤ (c : Int) := by omega
  have j5 : ¬ c = 4 := by omega
  have j6 : ¬ c = 8 := by omega
  have j7 : ¬ c = 12 := by omega
  have GG := (g5_new w Z D s l a).keep (bl (w.alloc (.cells #[.int .i64 Z, .int .i64 D, .int .i64 s, .int .i64 l, .int .i64 a] 23)) (.cells #[.int .i64 0, .int .i64 0, .int .i64 0, .int .i64 0, .int .i64 0, .string ⟨#[]⟩, .slice none 0 0] 26)) (by simp)
  have PZ := sev_new (w.alloc (.cells #[.int .i64 Z, .int .i64 D, .int .i64 s, .int .i64 l, .int .i64 a] 23)) (.int .i64 0) (.int .i64 0) (.int .i64 0) (.int .i64 0) (.int .i64 0) (.string ⟨#[]⟩) (.slice none 0 0) 26
  rw [show (w.alloc (.cells #[.int .i64 Z, .int .i64 D, .int .i64 s, .int .i64 l, .int .i64 a] 23)).heap.size = w.heap.size + 1 by simp] at PZ
  have hb0 := kal (bl w (.cells #[.int .i64 Z, .int .i64 D, .int .i64 s, .int .i64 l, .int .i64 a] 23)) (.cells #[.int .i64 0, .int .i64 0, .int .i64 0, .int .i64 0, .int .i64 0, .string ⟨#[]⟩, .slice none 0 0] 26)
  have l1 : w.heap.size + 1 < ((w.alloc (.cells #[.int .i64 Z, .int .i64 D, .int .i64 s, .int .i64 l, .int .i64 a] 23)).alloc (.cells #[.int .i64 0, .int .i64 0, .int .i64 0, .int .i64 0, .int .i64 0, .string ⟨#[]⟩, .slice none 0 0] 26)).heap.size := by simp
  go_enter Tryd.func20, Tryd.ntmps20
  go_upto_region 1 with fail
  generalize (w.alloc (.cells #[.int .i64 Z, .int .i64 D, .int .i64 s, .int .i64 l, .int .i64 a] 23)).alloc (.cells #[.int .i64 0, .int .i64 0, .int .i64 0, .int .i64 0, .int .i64 0, .string ⟨#[]⟩, .slice none 0 0] 26) = w0 at *
  go_upto_region 3 with fail
  go_cut [6] from 17 to 33 (fun v wx => v = .pointer (some ⟨w0.heap.size, 0, none⟩) ∧ Sev wx w0.heap.size (.int .i64 (num (b.take 4))) (.int .i64 (num ((b.drop 4).take 4))) (.int .i64 (b[16].toNat : Int)) (.int .i64 (num ((b.drop 8).take 4))) (.int .i64 (num ((b.drop 12).take 4))) (.string ⟨#[]⟩) (.slice none 0 0) ∧ Below w0.heap.size w0 wx ∧ w0.heap.size < wx.heap.size)
  case first =>
      have hc16 := kst hb0 hbb hb16
      have lb : bb < w0.heap.size := Nat.lt_trans hbb (Nat.lt_of_succ_lt l1)
      have HF := Lib.hid (show ∀ W, Below w0.heap.size w0 W → W.cell? ⟨bb, off + 16, none⟩ = some (.int .u8 (b[16].toNat : Int)) ∧ Below w0.heap.size w0 W from fun W h => ⟨kst h lb hc16, h⟩)
      have wb : IntKind.i64.wrap (b[16].toNat : Int) = (b[16].toNat : Int) := IntWalk.i64_in _ (by omega)
      have PN := (sev_new w0 (.int .i64 0) (.int .i64 0) (.int .i64 0) (.int .i64 0) (.int .i64 0) (.string ⟨#[]⟩) (.slice none 0 0) 26).keep (B := w0.heap.size + 1) (below_dr (Below.refl _ _)) (by omega)
      obtain ⟨y0, y1, y2, y3, y4, y5, y6, k0, k1, k2, k3, k4, k5, k6⟩ := id PN
      go_region_held3 (fun W => W.cell? ⟨bb, off + 16, none⟩ = some (.int .u8 (b[16].toNat : Int)) ∧ Below w0.heap.size w0 W)
        ((refine HF.out _ ?_; first
          | with_reducible exact kal (below_dr (Below.refl _ _)) _
          | with_reducible exact below_dr (bl w0 _)
          | with_reducible exact bl w0 _
          | with_reducible exact below_dr (Below.refl _ _)
          | with_reducible exact Below.refl _ _
          | fail))
        (first
          | (go_at_call 26; (with_reducible refine (D0.out _ (bt hb0 (below_dr (Below.refl _ _)))).mono ?_); rintro e wq ⟨rfl, rfl⟩)
          | (go_at_call 26; (with_reducible refine (D0.out _ (bt hb0 (below_dr (bl w0 _)))).mono ?_); rintro e wq ⟨rfl, rfl⟩)
          | (go_at_call 26; (with_reducible refine (D4.out _ (bt hb0 (below_dr (Below.refl _ _)))).mono ?_); rintro e wq ⟨rfl, rfl⟩)
          | (go_at_call 26; (with_reducible refine (D4.out _ (bt hb0 (below_dr (bl w0 _)))).mono ?_); rintro e wq ⟨rfl, rfl⟩)
          | (go_at_call 26; (with_reducible refine (D8.out _ (bt hb0 (below_dr (Below.refl _ _)))).mono ?_); rintro e wq ⟨rfl, rfl⟩)
          | (go_at_call 26; (with_reducible refine (D8.out _ (bt hb0 (below_dr (bl w0 _)))).mono ?_); rintro e wq ⟨rfl, rfl⟩)
          | (go_at_call 26; (with_reducible refine (D12.out _ (bt hb0 (below_dr (Below.refl _ _)))).mono ?_); rintro e wq ⟨rfl, rfl⟩)
          | (go_at_call 26; (with_reducible refine (D12.out _ (bt hb0 (below_dr (bl w0 _)))).mono ?_); rintro e wq ⟨rfl, rfl⟩)
          | fail)
      all_goals (go_wp2_with fail; go_meet)
      all_goals exact ⟨rfl, (sev_new w0 _ _ _ _ _ _ _ _).keep (B := w0.heap.size + 1) (below_dr (Below.refl _ _)) (by omega), below_dr (bl w0 _), by simp⟩
  case rest =>
    obtain ⟨w2, rfl⟩ : ∃ x, x = wc := ⟨wc, rfl⟩
    obtain ⟨rfl, SN, hb2, l2⟩ := hcut
    have hb02 := bt hb0 hb2
    have GG2 := GG.keep hb2 (by omega)
    have PZ2 := PZ.keep hb2 l1
    clear GG PZ D0 D4 D8 D12
    have hsd := readL_sound h
    have htl : t.length + 18 ≤ n := by have h1 := hsd.2.2; rw [List.length_drop, hn] at h1; omega
    have HRL := Lib.hid (rlab_some (some ⟨bb, off + 17, none⟩) (c - 17) (n - 17) (b.drop 17) t w2 ((HSL.out 17 _ hb02).more hb02.size) (by rw [List.length_drop, hn]) (by omega) (by unfold maxLen; omega) h)
    have r1 : (17 : Int) ≤ (n : Int) := by omega
    have r2 : (17 : Int) ≤ (c : Int) := by omega
    have r3 : ¬ c = 17 := by omega
    clear h hsd i2 i3 i4 i5 j2 j3 j4 j5 j6 j7
    go_upto_region 5 with (go_at_call 43; (with_reducible refine HRL.out.mono ?_); rintro e w3 ⟨rfl, hb3⟩)
    replace PZ2 := PZ2.keep hb3 (by omega)
    replace GG2 := GG2.keep hb3 (by omega)
    replace SN := SN.keep hb3 l2
    replace hb2 := hb2.trans (hb3.mono (Nat.le_of_lt l2))
    replace hb02 := bt hb02 hb3
    replace l2 := Nat.lt_of_lt_of_le l2 hb3.size
    have HSR := Lib.hid (HSL.out (18 + t.length) w3 hb02)
    clear HRL hb3 HSL
    go_cut [9] from 39 to 43 (fun v wx => ∃ (AR : Option Addr) (cR : Nat), v = .slice AR (n - (18 + t.length)) cR ∧ n - (18 + t.length) ≤ cR ∧ cR ≤ c ∧ Sl w3 w.heap.size AR (b.drop (18 + t.length)) ∧ w3 = wx)
    case first =>
      have q1 : (17 : Int) + (1 + (t.length : Int)) ≤ (n : Int) := by omega
      have q2 : (17 : Int) + (1 + (t.length : Int)) ≤ (c : Int) := by omega
      have q3 : ((17 : Int) + (1 + (t.length : Int))).toNat = 18 + t.length := by omega
      have q4 : (0 : Int) ≤ (17 : Int) + (1 + (t.length : Int)) := by omega
      by_cases hc : c = 18 + t.length
      · subst hc
        go_wp2_with fail
        go_meet
        exact ⟨some ⟨bb, off, none⟩, 0, by rw [show n - (18 + t.length) = 0 by omega], by omega, by omega, by rw [List.drop_eq_nil_of_le (by omega)]; exact Sl.nil _ _ _, rfl⟩
      · go_wp2_with fail
        go_meet
        exact ⟨_, _, rfl, by omega, by omega, HSR.out, rfl⟩
    case rest =>
      obtain ⟨AR, cR, rfl, hcR, hcc, SR, rfl⟩ := hcut
      clear HSR
      obtain ⟨o1, o2, -⟩ := id ho
      obtain ⟨g0, g1, -, -, -⟩ := id GG2
      have p1 : ((1 : Int) + (t.length : Int) == 0) = false := beq_eq_false_iff_ne.2 (by omega)
      have pz : (0 : Int) ≤ (Z : Int) * ((D : Int) + 6) := Int.mul_nonneg (by omega) (by omega)
      have pz2 : (Z : Int) * ((D : Int) + 6) ≤ 40 := by
        have := Int.mul_le_mul (show (Z : Int) ≤ 4 by omega) (show (D : Int) + 6 ≤ 10 by omega) (by omega) (by omega)
        omega
      have p3 : (((n - (18 + t.length) : Nat) : Int) != (Z : Int) * ((D : Int) + 6)) = false := by
        have h0 := hl
        rw [List.length_drop, hn] at h0
        rw [h0, Int.natCast_mul, Int.natCast_add]
        exact bne_self_eq_false _
      have HL := Lib.hid hl
      have HO := Lib.hid ho
      obtain ⟨ga, hga⟩ : ∃ g, g = w0.heap.size := ⟨_, rfl⟩
      rw [← hga] at SN l1 l2 hb2 ⊢
      clear hga
      obtain ⟨R, hR⟩ : ∃ R, R = b.drop (18 + t.length) := ⟨_, rfl⟩
      rw [← hR] at SR
      have hRl : R.length = Z * (D + 6) := by rw [hR]; exact hl
      have HRL2 := Lib.hid hRl
      have HRE := Lib.hid hR
      clear hl ho hR hRl
      obtain ⟨y0, y1, y2, y3, y4, y5, y6, k0, k1, k2, k3, k4, k5, k6⟩ := id SN
      have HMQ := Lib.hid (show n - (18 + t.length) = Z * (D + 6) by have h1 := HL.out; rw [List.length_drop, hn] at h1; exact h1)
      go_upto_region 9 with fail
      have hB4 : Below ga w3 (w3.setCell ⟨ga, 5, none⟩ (.string ⟨t.toArray⟩)) := (Below.refl ga w3).setCell (p := ⟨ga, 5, none⟩) (Nat.le_refl ga) _
      have SN5 := SN.set5 (.string ⟨t.toArray⟩)
      have SR4 := SR.below (hB4.mono (Nat.le_of_lt (Nat.lt_of_succ_lt l1)))
      have PZ4 := PZ2.keep hB4 (by omega)
      have GG4 := GG2.keep hB4 (by omega)
      have hb04 := hb02.trans (hB4.mono (by omega))
      have l4 : ga < (w3.setCell ⟨ga, 5, none⟩ (.string ⟨t.toArray⟩)).heap.size := by simpa using l2
      clear y0 y1 y2 y3 y4 y5 y6 k0 k1 k2 k3 k4 k5 k6 g0 g1 SN SR PZ2 GG2 hb02 hb2 l2 hB4 p1 p3
      generalize w3.setCell ⟨ga, 5, none⟩ (.string ⟨t.toArray⟩) = w4 at *
      obtain ⟨g0, g1, -, -, -⟩ := id GG4
      go_wp2_with fail
      go_loopw [9, 10] (fun vr i w' => ∃ (k : Nat) (rs : List HomR) (v : Value) (AK : Option Addr) (q cK : Nat), k ≤ Z ∧ i = .int .i64 k ∧ vr = .slice AK q cK ∧ q + k * (D + 6) = Z * (D + 6) ∧ q ≤ cK ∧ cK ≤ c ∧ Sl w4 w.heap.size AK (R.drop (k * (D + 6))) ∧ hds rs = homesN D R k ∧ OwnH w' (ga + 1) v rs ∧ Sev w' ga (.int .i64 (num (b.take 4))) (.int .i64 (num ((b.drop 4).take 4))) (.int .i64 (b[16].toNat : Int)) (.int .i64 (num ((b.drop 8).take 4))) (.int .i64 (num ((b.drop 12).take 4))) (.string ⟨t.toArray⟩) v ∧ Below ga w4 w' ∧ ga + 1 ≤ w'.heap.size) (fun _ i _ => Z - (RowKit.intOf i).toNat)
      case atStart => exact ⟨0, [], .slice none 0 0, AR, n - (18 + t.length), cR, Nat.zero_le _, rfl, rfl, by rw [HMQ.out]; simp, hcR, hcc, by simpa using SR4, rfl, ownH_nil _ _, SN5, Below.refl _ _, l4⟩
      case round =>
        clear g0 g1 SR4 SN5
        obtain ⟨w5, rfl⟩ : ∃ x, x = wr := ⟨wr, rfl⟩
        obtain ⟨k, rs, v, AK, q, cK, hk, rfl, rfl, hq, hqc, hcK, hsk, hrs, hown, P5, hb5, hl5⟩ := hrel
        by_cases hlt : k < Z
        · have hqk : D + 6 ≤ q := by
            have h1 := Nat.mul_le_mul_right (D + 6) (show k + 1 ≤ Z from hlt)
            rw [Nat.succ_mul] at h1
            omega
          have hq300 : q ≤ 40 := by
            have h1 := Nat.mul_le_mul (show Z ≤ 4 by omega) (show D + 6 ≤ 10 by omega)
            omega
          obtain ⟨RK, hRK⟩ : ∃ L, L = R.drop (k * (D + 6)) := ⟨_, rfl⟩
          rw [← hRK] at hsk
          have hRKl : RK.length = q := by rw [hRK, List.length_drop, HRL2.out]; omega
          obtain ⟨br, or, rfl, hbr, hce⟩ := id (hsk (by omega))
          have HE := Lib.hid (show ∀ (W : World), Below ga w4 W → ∀ (t : Nat) (ht : t < RK.length), W.cell? ⟨br, or + t, none⟩ = some (.int .u8 (RK[t].toNat : Int)) from fun W h t ht => ks h (by omega) (hce t ht))
          have HGK := Lib.hid (show ∀ (W : World), Below ga w4 W → Calls Tryd.prog 26 #[.slice (some ⟨br, or + (D + 2), none⟩) (q - (D + 2)) (cK - (D + 2)), .int .i64 4] W fun e w' => e = .returned (.int .i64 (num ((RK.drop (D + 2)).take 4))) ∧ W = w' from fun W h =>
            ref_get 4 (q - (D + 2)) _ (cK - (D + 2)) w.heap.size (RK.drop (D + 2)) W (by omega) (by rw [List.length_drop, hRKl]) (by omega) ((hsk.drop (D + 2)).below (h.mono (by omega))))
          have hlk : rs.length = k := by
            have h1 := congrArg List.length hrs
            rwa [hds_length, homesN_len] at h1
          have HRS := Lib.hid hrs
          have HSK := Lib.hid hsk
          have HRK := Lib.hid hRK
          have HRKL := Lib.hid hRKl
          have HLK := Lib.hid hlk
          have HQ := Lib.hid hq
          clear hce hsk hrs hRK hRKl hlk hq
          obtain ⟨g0, g1, -, -, -⟩ := id (GG4.keep hb5 (by omega))
          have i1 : (k : Int) < (Z : Int) := by omega
          go_upto_region 13 with fail
          have T0 := tri_new w5 (.slice none 0 0) (.int .i64 0) (.int .i64 0) 54
          have hx0 := bl w5 (.cells #[.slice none 0 0, .int .i64 0, .int .i64 0] 54)
          have lx : (w5.alloc (.cells #[.slice none 0 0, .int .i64 0, .int .i64 0] 54)).heap.size = w5.heap.size + 1 := by simp
          clear g0 g1
          generalize w5.alloc (.cells #[.slice none 0 0, .int .i64 0, .int .i64 0] 54) = w6 at *
          obtain ⟨g0, g1, -, -, -⟩ := id ((GG4.keep hb5 (by omega)).keep hx0 (by omega))
          go_wp2_with fail
          go_loopw [12] (fun i w' => ∃ (t : Nat) (vq : Value), t ≤ D + 1 ∧ i = .int .i64 t ∧ OwnV w' (w5.heap.size + 1) 3 vq (ints (plN RK t)) ∧ Tri w' w5.heap.size vq (.int .i64 0) (.int .i64 0) ∧ Below w5.heap.size w5 w' ∧ w5.heap.size + 1 ≤ w'.heap.size) (fun i _ => D + 1 - (RowKit.intOf i).toNat)
          case atStart => exact ⟨0, .slice none 0 0, by omega, rfl, ownV_nil _ _ _, T0, hx0, by omega⟩
          case round =>
            clear T0 hx0 lx g0 g1 w6
            obtain ⟨w7, rfl⟩ : ∃ x, x = wr := ⟨wr, rfl⟩
            obtain ⟨j, vq, hj, rfl, hoq, T3, hb7, hl7⟩ := hrel
            have hb57 : Below ga w4 w7 := bm hb5 (by omega) hb7
            obtain ⟨g0, g1, -, -, -⟩ := id (GG4.keep hb57 (by omega))
            by_cases hjt : j < D + 1
            · have i2 : (j : Int) ≤ (D : Int) := by omega
              have i3 : (j : Int) < (q : Int) := by omega
              have i4 : (0 : Int) ≤ (j : Int) := by omega
              have hjR : j < RK.length := by have := HRKL.out; omega
              have e0 := HE.out w7 hb57 j hjR
              have hby := RK[j].toNat_lt
              have wby : IntKind.i64.wrap (RK[j].toNat : Int) = (RK[j].toNat : Int) := IntWalk.i64_in _ (by omega)
              have n0 := T3.c0
              have HIL := Lib.hid (show (ints (plN RK j)).length = j by rw [ints_length, plN_len (by omega)])
              have HNX := Lib.hid (show ints (plN RK j) ++ [.int .i64 (RK[j].toNat : Int)] = ints (plN RK (j + 1)) by rw [bytes_next hjR, ints_add])
              generalize (RK[j].toNat : Int) = by0 at *
              go_wp2_with fail
              refine wp_region_tail (S := fun W => W.cell? ⟨w5.heap.size, 0, none⟩ = some vq ∧ W.cell? ⟨br, or + j, none⟩ = some (.int .u8 by0) ∧ Below (w5.heap.size + 1) w7 W) 10 rfl (by kernel_rfl) (by kernel_rfl) ⟨n0, e0, below_dr (Below.refl _ _)⟩ (fun hS => ?_)
              simp only [List.take_succ_cons, List.take_zero]
              (refine wpAnyH_take (i := 0) (v := ?_) rfl (by kernel_rfl) (by kernel_rfl) (by kernel_rfl) (fun _ _ _ h => h) (Or.inl ⟨by rfl, ?_⟩) (by assumption) ?_; rotate_left; (focus (intro w hSw; (try dsimp only at hSw); go_split_ands; go_simp <;> with_reducible rfl)); simp only [List.getElem_toArray, List.getElem_cons_zero, Act.put, List.setIfInBounds_toArray, List.set_cons_zero, List.set_cons_succ])
              (refine wpAnyH_take (i := 1) (v := ?_) rfl (by kernel_rfl) (by kernel_rfl) (by kernel_rfl) (fun _ _ _ h => h) (Or.inl ⟨by rfl, ?_⟩) (by assumption) ?_; rotate_left; (focus (intro w hSw; (try dsimp only at hSw); go_split_ands; go_simp <;> with_reducible rfl)); simp only [List.getElem_toArray, List.getElem_cons_zero, List.getElem_cons_succ, Act.put, List.setIfInBounds_toArray, List.set_cons_zero, List.set_cons_succ])
              (refine wpAnyH_take (i := 2) (v := ?_) rfl (by kernel_rfl) (by kernel_rfl) (by kernel_rfl) (fun _ _ _ h => h) (Or.inl ⟨by rfl, ?_⟩) (by assumption) ?_; rotate_left; (focus (intro w hSw; (try dsimp only at hSw); go_split_ands; go_simp <;> with_reducible rfl)); simp only [List.getElem_toArray, List.getElem_cons_zero, List.getElem_cons_succ, Act.put, List.setIfInBounds_toArray, List.set_cons_zero, List.set_cons_succ])
              (refine wpAnyH_take (i := 3) (v := ?_) rfl (by kernel_rfl) (by kernel_rfl) (by kernel_rfl) (fun _ _ _ h => h) (Or.inl ⟨by rfl, ?_⟩) (by assumption) ?_; rotate_left; (focus (intro w hSw; (try dsimp only at hSw); go_split_ands; go_simp <;> with_reducible rfl)); simp only [List.getElem_toArray, List.getElem_cons_zero, List.getElem_cons_succ, Act.put, List.setIfInBounds_toArray, List.set_cons_zero, List.set_cons_succ])
              (refine wpAnyH_take (i := 4) (v := ?_) rfl (by kernel_rfl) (by kernel_rfl) (by kernel_rfl) (fun _ _ _ h => h) (Or.inl ⟨by rfl, ?_⟩) (by assumption) ?_; rotate_left; (focus (intro w hSw; (try dsimp only at hSw); go_split_ands; go_simp <;> with_reducible rfl)); simp only [List.getElem_toArray, List.getElem_cons_zero, List.getElem_cons_succ, Act.put, List.setIfInBounds_toArray, List.set_cons_zero, List.set_cons_succ])
              (refine wpAnyH_take (i := 5) (v := ?_) rfl (by kernel_rfl) (by kernel_rfl) (by kernel_rfl) (fun _ _ _ h => h) (Or.inl ⟨by rfl, ?_⟩) (by assumption) ?_; rotate_left; (focus (intro w hSw; (try dsimp only at hSw); go_split_ands; go_simp <;> with_reducible rfl)); simp only [List.getElem_toArray, List.getElem_cons_zero, List.getElem_cons_succ, Act.put, List.setIfInBounds_toArray, List.set_cons_zero, List.set_cons_succ])
              (refine wpAnyH_take (i := 6) (v := ?_) rfl (by kernel_rfl) (by kernel_rfl) (by kernel_rfl) (fun _ _ _ h => h) (Or.inl ⟨by rfl, ?_⟩) (by assumption) ?_; rotate_left; (focus (intro w hSw; (try dsimp only at hSw); go_split_ands; go_simp <;> with_reducible rfl)); simp only [List.getElem_toArray, List.getElem_cons_zero, List.getElem_cons_succ, Act.put, List.setIfInBounds_toArray, List.set_cons_zero, List.set_cons_succ])
              refine wpAnyH_ready (rs := [7]) (by kernel_rfl) (by simp) ?_
              refine AllReadyH.cons rfl (fun K hK => ?_) AllReadyH.nil
              go_simp
              have sa : Below (w5.heap.size + 1) w7 (w7.alloc (.cells #[.int .i64 by0] 3)).drew := below_dr (ka (Below.refl _ _) hl7 _)
              refine hK.out _ _ ⟨ks sa (by omega) n0, ks sa (by omega) e0, sa⟩ (fun hS => ?_)
              clear hK K
              refine wpAnyH_ready (rs := [8]) (by kernel_rfl) (by simp) ?_
              refine AllReadyH.cons rfl (fun K hK => ?_) AllReadyH.nil
              have oa : OwnV (w7.alloc (.cells #[.int .i64 by0] 3)).drew (w5.heap.size + 1) 3 vq _ := (hoq.alloc (.cells #[.int .i64 by0] 3)).drew
              have src := (SlV.of_block (W := (w7.alloc (.cells #[.int .i64 by0] 3)).drew) (vs := [.int .i64 by0]) (heap_alloc_new w7 (.cells #[.int .i64 by0] 3)) rfl (Nat.lt_succ_self _)).src (ints_one [by0]) Tryd.underlying52 1
              have hlz : w5.heap.size + 1 ≤ (w7.alloc (.cells #[.int .i64 by0] 3)).drew.heap.size := Nat.le_trans hl7 sa.size
              generalize (w7.alloc (.cells #[.int .i64 by0] 3)).drew = wa at *
              refine step_appV wa (by rfl) _ _ _ _ (by rfl) (w5.heap.size + 1) 3 tvI vq _ (by rfl) oa _ [.int .i64 by0] (by rfl) src (by rw [HIL.out]; unfold maxLen; simp; omega) (by rw [HIL.out]; simp; omega) hlz ?_
              intro v3 w8 h3 hg3 hat3
              have hb8 : Below (w5.heap.size + 1) w7 w8 := sa.grown hg3 hlz (fun x hx => (World.ownsRow.lt oa x hx).1)
              refine hK.out _ _ ⟨ks hb8 (by omega) n0, ks hb8 (by omega) e0, hb8⟩ (fun hS => ?_)
              clear hK K
              simp only [List.getElem_toArray, List.getElem_cons_zero, List.getElem_cons_succ, Act.put, List.setIfInBounds_toArray, List.set_cons_zero, List.set_cons_succ]
              (refine wpAnyH_take (i := 9) (v := ?_) rfl (by kernel_rfl) (by kernel_rfl) (by kernel_rfl) (fun _ _ _ h => h) (Or.inl ⟨by rfl, ?_⟩) (by assumption) ?_; rotate_left; (focus (intro w hSw; (try dsimp only at hSw); go_split_ands; go_simp <;> with_reducible rfl)); simp only [List.getElem_toArray, List.getElem_cons_zero, List.getElem_cons_succ, Act.put, List.setIfInBounds_toArray, List.set_cons_zero, List.set_cons_succ])
              refine wpAnyH_done (by kernel_rfl) ?_ _
              have T4 := T3.keep hb8 (by omega)
              have c0' := T4.c0
              have f0' := T4.f0
              rw [HNX.out] at h3
              obtain ⟨A3, d3, hv3, -, -, -, -⟩ := h3.form
              subst hv3
              simp only [tailQ]
              go_simp
              have T5 := T4.set0 (.slice A3 (ints (plN RK (j + 1))).length d3)
              have ho5 : OwnV (w8.setCell ⟨w5.heap.size, 0, none⟩ (.slice A3 (ints (plN RK (j + 1))).length d3)) (w5.heap.size + 1) 3 (.slice A3 (ints (plN RK (j + 1))).length d3) _ :=
                ownsRow_setCell_other h3 (fun hk => by have := (World.ownsRow.lt h3 w5.heap.size hk).1; omega) _
              have b9 : Below w5.heap.size w5 (w8.setCell ⟨w5.heap.size, 0, none⟩ (.slice A3 (ints (plN RK (j + 1))).length d3)) := (hb7.trans (hb8.mono (by omega))).setCell (Nat.le_refl _) _
              have hl9 : w5.heap.size + 1 ≤ (w8.setCell ⟨w5.heap.size, 0, none⟩ (.slice A3 (ints (plN RK (j + 1))).length d3)).heap.size := by have := hb8.size; simp; omega
              clear T4 h3 hb8 hg3 hat3 n0 e0 src oa sa hlz wby hby
              go_wp2
              go_roundw
              case rel => exact ⟨j + 1, _, by omega, by go_num, ho5, T5, b9, hl9⟩
              case measure => simp [RowKit.intOf]; omega
            · have i2 : ¬ (j : Int) ≤ (D : Int) := by omega
              obtain rfl : j = D + 1 := by omega
              have hD1 : D + 1 < RK.length := by have := HRKL.out; omega
              have e1 := HE.out w7 hb57 (D + 1) hD1
              have hby := RK[D + 1].toNat_lt
              have wby : IntKind.i64.wrap (RK[D + 1].toNat : Int) = (RK[D + 1].toNat : Int) := IntWalk.i64_in _ (by omega)
              have HNB := Lib.hid (show (RK[D + 1].toNat : Int) = (num ((RK.drop (D + 1)).take 1) : Int) by rw [List.drop_eq_getElem_cons hD1, num_one])
              generalize (RK[D + 1].toNat : Int) = by1 at *
              obtain ⟨nm, hnm⟩ : ∃ y : Nat, y = num ((RK.drop (D + 2)).take 4) := ⟨_, rfl⟩
              have HNM := Lib.hid hnm
              have HGET := Lib.hid (show Calls Tryd.prog 26 #[.slice (some ⟨br, or + (D + 2), none⟩) (q - (D + 2)) (cK - (D + 2)), .int .i64 4] w7.drew fun e w' => e = .returned (.int .i64 nm) ∧ w7.drew = w' from by
                rw [hnm]
                exact HGK.out _ (below_dr hb57))
              clear hnm
              have n0 := T3.c0
              have n1 := T3.c1
              have n2 := T3.c2
              have f1 := T3.f1
              have f2 := T3.f2
              have p1 : IntKind.i64.wrap ((D : Int) + 1) = (D : Int) + 1 := IntWalk.i64_in _ (by omega)
              have p2 : IntKind.i64.wrap ((D : Int) + 2) = (D : Int) + 2 := IntWalk.i64_in _ (by omega)
              have p3 : ((D : Int) + 1).toNat = D + 1 := by omega
              have p4 : ((D : Int) + 2).toNat = D + 2 := by omega
              have p5 : (0 : Int) ≤ (D : Int) + 1 := by omega
              have p6 : (D : Int) + 1 < (q : Int) := by omega
              have p7 : (0 : Int) ≤ (D : Int) + 2 := by omega
              have p8 : (D : Int) + 2 ≤ (q : Int) := by omega
              have p9 : (D : Int) + 2 ≤ (cK : Int) := by omega
              have p10 : ¬ cK = D + 2 := by omega
              have HS := Lib.hid (show ∀ W, Below w5.heap.size w7 W → W.cell? ⟨br, or + (D + 1), none⟩ = some (.int .u8 by1) ∧ W.cell? ⟨w.heap.size, 1, none⟩ = some (.int .i64 (D : Int)) ∧ Below w5.heap.size w7 W from fun W h => ⟨ks h (by omega) e1, ks h (by omega) g1, h⟩)
              go_upto_region 17 with fail
              go_region_held3 (fun W => W.cell? ⟨br, or + (D + 1), none⟩ = some (.int .u8 by1) ∧ W.cell? ⟨w.heap.size, 1, none⟩ = some (.int .i64 (D : Int)) ∧ Below w5.heap.size w7 W)
                ((refine HS.out _ ?_; first
                  | with_reducible exact below_dr (((Below.refl _ _).setCell (p := ⟨w5.heap.size, 1, none⟩) (Nat.le_refl _) _).setCell (p := ⟨w5.heap.size, 2, none⟩) (Nat.le_refl _) _)
                  | with_reducible exact below_dr ((Below.refl _ _).setCell (p := ⟨w5.heap.size, 1, none⟩) (Nat.le_refl _) _)
                  | with_reducible exact below_dr (Below.refl _ _)
                  | fail))
                (first
                  | (go_at_call 26; (with_reducible refine HGET.out.mono ?_); rintro e wq ⟨rfl, rfl⟩)
                  | fail)
              have hbS : Below w5.heap.size w7 (((w7.setCell ⟨w5.heap.size, 1, none⟩ (.int .i64 by1)).setCell ⟨w5.heap.size, 2, none⟩ (.int .i64 nm)).drew) := below_dr (((Below.refl _ _).setCell (p := ⟨w5.heap.size, 1, none⟩) (Nat.le_refl _) _).setCell (p := ⟨w5.heap.size, 2, none⟩) (Nat.le_refl _) _)
              have T8 : Tri (((w7.setCell ⟨w5.heap.size, 1, none⟩ (.int .i64 by1)).setCell ⟨w5.heap.size, 2, none⟩ (.int .i64 nm)).drew) w5.heap.size vq (.int .i64 by1) (.int .i64 nm) := ((T3.set1 (.int .i64 by1)).set2 (.int .i64 nm)).keep (B := w5.heap.size + 1) (below_dr (Below.refl _ _)) (Nat.lt_succ_self _)
              have hne : ∀ q, vq.ownBlock = some q → w5.heap.size + 1 ≤ q := fun q h => (World.ownsRow.lt hoq q h).1
              have ho8 : OwnV (((w7.setCell ⟨w5.heap.size, 1, none⟩ (.int .i64 by1)).setCell ⟨w5.heap.size, 2, none⟩ (.int .i64 nm)).drew) (w5.heap.size + 1) 3 vq (ints (plN RK (D + 1))) := OwnV.drew (ownsRow_setCell_other (ownsRow_setCell_other hoq (fun h => absurd (hne _ h) (Nat.not_succ_le_self _)) _) (fun h => absurd (hne _ h) (Nat.not_succ_le_self _)) _)
              clear n0 n1 n2 f1 f2 g0 g1 e1 HS HGET T3 hoq hne
              generalize ((w7.setCell ⟨w5.heap.size, 1, none⟩ (.int .i64 by1)).setCell ⟨w5.heap.size, 2, none⟩ (.int .i64 nm)).drew = w8 at *
              have hb58 : Below w5.heap.size w5 w8 := hb7.trans hbS
              have hb48 : Below ga w4 w8 := bm hb5 (by omega) hb58
              have hl8 := hb58.size
              have P8 := P5.keep hb58 (by omega)
              have ow := hown.below hb58
              have p6' := P8.c6
              have f6' := P8.f6
              obtain ⟨g0, g1, -, -, -⟩ := id (GG4.keep hb48 (by omega))
              obtain ⟨A2, d2, hv2, -, -, -, -⟩ := ho8.form
              subst hv2
              have hlv : (ints (plN RK (D + 1))).length = D + 1 := by rw [ints_length, plN_len (by omega)]
              rw [hlv] at T8 ho8
              obtain ⟨n0, n1, n2, -, -, -⟩ := id T8
              have hlm : (plN RK (D + 1)).length = D + 1 := plN_len (by omega)
              have HLM := Lib.hid hlm
              have HOO := Lib.hid ho8
              clear p1 p2 p3 p4 p5 p6 p7 p8 p9 p10 hlv hlm ho8 T8 hbS hb57 hl7
              have hlk := HLK.out
              have s1 : (0 : Int) ≤ (D : Int) + 6 := by omega
              have s2 : (D : Int) + 6 ≤ (q : Int) := by omega
              have s3 : (D : Int) + 6 ≤ (cK : Int) := by omega
              have s4 : ((D : Int) + 6).toNat = D + 6 := by omega
              have hqn : q - (D + 6) + (k + 1) * (D + 6) = Z * (D + 6) := by rw [Nat.succ_mul]; have := HQ.out; omega
              have HQN := Lib.hid hqn
              have hdr : R.drop ((k + 1) * (D + 6)) = RK.drop (D + 6) := by rw [HRK.out, List.drop_drop, Nat.succ_mul]
              have HDR := Lib.hid hdr
              have hdn : ∀ A d, hds (rs ++ [⟨A, d, plN RK (D + 1), by1, nm⟩]) = homesN D R (k + 1) := fun A d => by
                rw [hds_append, HRS.out, homesN_next, ← HRK.out, HNB.out, HNM.out]
                rfl
              have HDN := Lib.hid hdn
              have hZ4 : Z ≤ 4 := by omega
              clear hqn hdr hdn
              by_cases hcd : cK = D + 6
              · subst hcd
                go_wp2_with (first
                  | (at_builtin
                     refine wpList_row _ rfl (.tmp 98) (.tmp 100) _ _ rfl (ga + 1) 3 40 54 (.agg #[.slice none 0 0, .int .i64 0, .int .i64 0]) Tryd.underlying24 h_info rfl v rs.length (hvs rs) rfl (World.ownsRow.alloc ow.1 _) _ 1 _ rfl (src_home (P := Tryd.prog) (heap_alloc_new w8 _) Tryd.underlying24 (by simp [Value.oneCell'])) (by rw [hlk]; unfold maxLen; omega) (by omega) (by simp; omega) ?_
                     intro v3 w9 h3 hg3
                     have b9 : Below (ga + 1) w8 w9 := ((Below.refl (ga + 1) w8).alloc (by omega) _).grown hg3 (by simp; omega) (fun x hx => (World.ownsRow.lt ow.1 x hx).1)
                     have P9 := P8.keep b9 (by omega)
                     have c9 := P9.c6
                     have f9 := P9.f6
                     replace g1 := ks b9 (by omega) g1
                     have g1s : (w9.setCell ⟨ga, 6, none⟩ undef).cell? ⟨w.heap.size, 1, none⟩ = w9.cell? ⟨w.heap.size, 1, none⟩ := World.cell?_setCell_other _ _ _ _ (fun h => by have := congrArg Addr.block h; simp at this; omega)
                     obtain ⟨A3, d3, hv3, -, -, -⟩ := row_form h3
                     subst hv3))
                have hr3 : OwnV (w8.alloc (.cells #[.slice A2 (D + 1 : Nat) d2, .int .i64 by1, .int .i64 nm] 54)) (ga + 1) 3 (.slice A2 (plN RK (D + 1)).length d2) (ints (plN RK (D + 1))) := by
                  rw [HLM.out]
                  exact (HOO.out.alloc _).less (by omega)
                have hmo := (ow.below (bl w8 (.cells #[.slice A2 (D + 1 : Nat) d2, .int .i64 by1, .int .i64 nm] 54))).more (r := ⟨A2, d2, plN RK (D + 1), by1, nm⟩) hg3 hr3 (by have := h3; unfold HomR.vs; rw [HLM.out]; exact this)
                have hfin : OwnH (w9.setCell ⟨ga, 6, none⟩ (.slice A3 (k + 1 : Nat) d3)) (ga + 1) (.slice A3 (k + 1 : Nat) d3) (rs ++ [⟨A2, d2, plN RK (D + 1), by1, nm⟩]) := by
                  rw [← hlk]
                  exact OwnH.cell_set hmo (by omega) _
                have bfin : Below ga w4 (w9.setCell ⟨ga, 6, none⟩ (.slice A3 (k + 1 : Nat) d3)) := (hb48.trans (b9.mono (Nat.le_succ _))).setCell (p := ⟨ga, 6, none⟩) (Nat.le_refl ga) _
                have hsz := b9.size
                have HFI := Lib.hid hfin
                have P10 := P9.set6 (.slice A3 (k + 1 : Nat) d3)
                rw [hlk] at *
                go_roundw
                case rel => exact ⟨k + 1, _, _, some ⟨br, or, none⟩, 0, 0, by omega, by go_num, rfl, by have := HQN.out; omega, by omega, by omega, by rw [HDR.out, List.drop_eq_nil_of_le (by have := HRKL.out; omega)]; exact Sl.nil _ _ _, HDN.out A2 d2, HFI.out, P10, bfin, by simp; omega⟩
                case measure => simp [RowKit.intOf]; omega
              · skip
                go_wp2_with (first
                  | (at_builtin
                     refine wpList_row _ rfl (.tmp 98) (.tmp 100) _ _ rfl (ga + 1) 3 40 54 (.agg #[.slice none 0 0, .int .i64 0, .int .i64 0]) Tryd.underlying24 h_info rfl v rs.length (hvs rs) rfl (World.ownsRow.alloc ow.1 _) _ 1 _ rfl (src_home (P := Tryd.prog) (heap_alloc_new w8 _) Tryd.underlying24 (by simp [Value.oneCell'])) (by rw [hlk]; unfold maxLen; omega) (by omega) (by simp; omega) ?_
                     intro v3 w9 h3 hg3
                     have b9 : Below (ga + 1) w8 w9 := ((Below.refl (ga + 1) w8).alloc (by omega) _).grown hg3 (by simp; omega) (fun x hx => (World.ownsRow.lt ow.1 x hx).1)
                     have P9 := P8.keep b9 (by omega)
                     have c9 := P9.c6
                     have f9 := P9.f6
                     replace g1 := ks b9 (by omega) g1
                     have g1s : (w9.setCell ⟨ga, 6, none⟩ undef).cell? ⟨w.heap.size, 1, none⟩ = w9.cell? ⟨w.heap.size, 1, none⟩ := World.cell?_setCell_other _ _ _ _ (fun h => by have := congrArg Addr.block h; simp at this; omega)
                     obtain ⟨A3, d3, hv3, -, -, -⟩ := row_form h3
                     subst hv3))
                have hr3 : OwnV (w8.alloc (.cells #[.slice A2 (D + 1 : Nat) d2, .int .i64 by1, .int .i64 nm] 54)) (ga + 1) 3 (.slice A2 (plN RK (D + 1)).length d2) (ints (plN RK (D + 1))) := by
                  rw [HLM.out]
                  exact (HOO.out.alloc _).less (by omega)
                have hmo := (ow.below (bl w8 (.cells #[.slice A2 (D + 1 : Nat) d2, .int .i64 by1, .int .i64 nm] 54))).more (r := ⟨A2, d2, plN RK (D + 1), by1, nm⟩) hg3 hr3 (by have := h3; unfold HomR.vs; rw [HLM.out]; exact this)
                have hfin : OwnH (w9.setCell ⟨ga, 6, none⟩ (.slice A3 (k + 1 : Nat) d3)) (ga + 1) (.slice A3 (k + 1 : Nat) d3) (rs ++ [⟨A2, d2, plN RK (D + 1), by1, nm⟩]) := by
                  rw [← hlk]
                  exact OwnH.cell_set hmo (by omega) _
                have bfin : Below ga w4 (w9.setCell ⟨ga, 6, none⟩ (.slice A3 (k + 1 : Nat) d3)) := (hb48.trans (b9.mono (Nat.le_succ _))).setCell (p := ⟨ga, 6, none⟩) (Nat.le_refl ga) _
                have hsz := b9.size
                have HFI := Lib.hid hfin
                have P10 := P9.set6 (.slice A3 (k + 1 : Nat) d3)
                rw [hlk] at *
                go_roundw
                case rel => exact ⟨k + 1, _, _, some ⟨br, or + (D + 6), none⟩, q - (D + 6), cK - (D + 6), by omega, by go_num, rfl, HQN.out, by omega, by omega, by rw [HDR.out]; exact HSK.out.drop (D + 6), HDN.out A2 d2, HFI.out, P10, bfin, by simp; omega⟩
                case measure => simp [RowKit.intOf]; omega
        · obtain rfl : k = Z := by omega
          obtain ⟨AH, ch, hv, -, -, -⟩ := row_form hown.1
          subst hv
          have hyo : AV.Own w5 (ga + 1) (⟨(num (b.take 4) : Int), (num ((b.drop 4).take 4) : Int), (b[16].toNat : Int), (num ((b.drop 8).take 4) : Int), (num ((b.drop 12).take 4) : Int), ⟨t.toArray⟩, AH, ch, rs⟩ : AV) := hown
          have hb1 : (num ((b.drop 16).take 1) : Int) = (b[16].toNat : Int) := by rw [List.drop_eq_getElem_cons (show 16 < b.length by omega), num_one]
          have hyd : AV.d (⟨(num (b.take 4) : Int), (num ((b.drop 4).take 4) : Int), (b[16].toNat : Int), (num ((b.drop 8).take 4) : Int), (num ((b.drop 12).take 4) : Int), ⟨t.toArray⟩, AH, ch, rs⟩ : AV) = x := by
            rw [← HXX.out, ← HRE.out, ← hrs]
            unfold ancN
            rw [hb1]
            rfl
          have hsh : HShort 1048576 rs := fun r hr => by
            have h1 := homesN_mem (D := D) (r := R) (n := k) (Nat.le_of_eq HRL2.out.symm) r.d (by rw [← hrs]; exact List.mem_map_of_mem hr)
            have h2 : r.ps.length = D + 1 := h1
            omega
          have hlr : rs.length = k := by
            have h1 := congrArg List.length hrs
            rwa [hds_length, homesN_len] at h1
          have HRA := Lib.hid (show ∀ W, Below w5.heap.size w5 W → Calls Tryd.prog 21 #[.agg #[.int .i64 k, .int .i64 D, .int .i64 s, .int .i64 l, .int .i64 a], .agg #[.int .i64 (num (b.take 4)), .int .i64 (num ((b.drop 4).take 4)), .int .i64 (b[16].toNat : Int), .int .i64 (num ((b.drop 8).take 4)), .int .i64 (num ((b.drop 12).take 4)), .string ⟨t.toArray⟩, .slice AH rs.length ch]] W fun e w' => e = .returned (.bool g) ∧ Below W.heap.size W w' from fun W hW =>
            right_p k D s l a g (⟨(num (b.take 4) : Int), (num ((b.drop 4).take 4) : Int), (b[16].toNat : Int), (num ((b.drop 8).take 4) : Int), (num ((b.drop 12).take 4) : Int), ⟨t.toArray⟩, AH, ch, rs⟩ : AV) W HO.out (hyo.inn.next hW) (by show rs.length ≤ 1048576; omega) hsh (by show (⟨t.toArray⟩ : ByteArray).size ≤ 4294967296; rw [← size_list]; show t.length ≤ _; omega) (by rw [hyd]; exact HG.out))
          have hz5 : w.heap.size + 1 < w5.heap.size := by omega
          have PZ5 := PZ4.keep hb5 (by omega)
          have GG5 := GG4.keep hb5 (by omega)
          have hb05 := hb04.trans (hb5.mono (by omega))
          have l5 : ga < w5.heap.size := by omega
          have HYD := Lib.hid hyd
          have HYO := Lib.hid hyo
          have i1 : ¬ (k : Int) < (k : Int) := by omega
          obtain ⟨g0, g1, g2, g3, g4⟩ := id GG5
          obtain ⟨a0, a1, a2, a3, a4, a5, a6, -, -, -, -, -, -, -⟩ := id P5
          clear hyd hyo hsh hrs hb1 hown hlr hq hqc hcK hsk
          cases g
          case false =>
            go_wp2_with (go_at_call 21; (with_reducible refine (HRA.out _ (Below.refl _ _)).mono ?_); rintro e w6 ⟨rfl, hb6⟩; have PZ6 := PZ5.keep hb6 hz5; obtain ⟨z0, z1, z2, z3, z4, z5, z6, f0, f1, f2, f3, f4, f5, f6⟩ := id PZ6; replace P5 := P5.keep hb6 l5; clear a0 a1 a2 a3 a4 a5 a6; obtain ⟨a0, a1, a2, a3, a4, a5, a6, -, -, -, -, -, -, -⟩ := id P5)
            have k7 := (((((((PZ6.set0 (.int .i64 0)).set1 (.int .i64 0)).set2 (.int .i64 0)).set3 (.int .i64 0)).set4 (.int .i64 0)).set5 (.string ⟨#[]⟩)).set6 (.slice none 0 0))
            exact bodyPost_ret (v := .tuple #[.agg #[.int .i64 0, .int .i64 0, .int .i64 0, .int .i64 0, .int .i64 0, .string ⟨#[]⟩, .slice none 0 0], .bool false]) (by simp [results, Tryd.results20, go_sem, k7.c0, k7.c1, k7.c2, k7.c3, k7.c4, k7.c5, k7.c6]) rfl ⟨⟨noAV, rfl, rfl, noAV_own _ _⟩, below7 (bt hb05 hb6) (Nat.le_succ _)⟩
          case true =>
            go_wp2_with (go_at_call 21; (with_reducible refine (HRA.out _ (Below.refl _ _)).mono ?_); rintro e w6 ⟨rfl, hb6⟩; have PZ6 := PZ5.keep hb6 hz5; obtain ⟨z0, z1, z2, z3, z4, z5, z6, f0, f1, f2, f3, f4, f5, f6⟩ := id PZ6; replace P5 := P5.keep hb6 l5; clear a0 a1 a2 a3 a4 a5 a6; obtain ⟨a0, a1, a2, a3, a4, a5, a6, -, -, -, -, -, -, -⟩ := id P5)
            have k7 := (((((((PZ6.set0 (.int .i64 (num (b.take 4)))).set1 (.int .i64 (num ((b.drop 4).take 4)))).set2 (.int .i64 (b[16].toNat : Int))).set3 (.int .i64 (num ((b.drop 8).take 4)))).set4 (.int .i64 (num ((b.drop 12).take 4)))).set5 (.string ⟨t.toArray⟩)).set6 (.slice AH rs.length ch))
            have hyo6 : OwnH w6 (ga + 1) (.slice AH rs.length ch) rs := OwnH.below HYO.out hb6
            have hgz : w.heap.size + 1 < ga + 1 := by omega
            have h7 := (OwnH.cell_set (o := 6) (OwnH.cell_set (o := 5) (OwnH.cell_set (o := 4) (OwnH.cell_set (o := 3) (OwnH.cell_set (o := 2) (OwnH.cell_set (o := 1) (OwnH.cell_set (o := 0) hyo6 hgz (.int .i64 (num (b.take 4)))) hgz (.int .i64 (num ((b.drop 4).take 4)))) hgz (.int .i64 (b[16].toNat : Int))) hgz (.int .i64 (num ((b.drop 8).take 4)))) hgz (.int .i64 (num ((b.drop 12).take 4)))) hgz (.string ⟨t.toArray⟩)) hgz (.slice AH rs.length ch))
            exact bodyPost_ret (v := .tuple #[.agg #[.int .i64 (num (b.take 4)), .int .i64 (num ((b.drop 4).take 4)), .int .i64 (b[16].toNat : Int), .int .i64 (num ((b.drop 8).take 4)), .int .i64 (num ((b.drop 12).take 4)), .string ⟨t.toArray⟩, .slice AH rs.length ch], .bool true]) (by simp [results, Tryd.results20, go_sem, k7.c0, k7.c1, k7.c2, k7.c3, k7.c4, k7.c5, k7.c6]) rfl ⟨⟨(⟨(num (b.take 4) : Int), (num ((b.drop 4).take 4) : Int), (b[16].toNat : Int), (num ((b.drop 8).take 4) : Int), (num ((b.drop 12).take 4) : Int), ⟨t.toArray⟩, AH, ch, rs⟩ : AV), rfl, HYD.out, OwnH.less h7 (by omega)⟩, below7 (bt hb05 hb6) (Nat.le_succ _)⟩
end Go.Proofs.YtkpbfhjpmhgmoaaDoor.anc
