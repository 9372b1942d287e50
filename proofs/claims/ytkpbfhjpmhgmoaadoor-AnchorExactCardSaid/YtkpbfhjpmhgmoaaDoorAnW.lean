/-
  The law's own example (wakes): a new volume's anchor, its bytes, what they are. Conditions: as AnU's.
-/
import Derived.Test.YtkpbfhjpmhgmoaaDoorAnU
namespace Go.Proofs.YtkpbfhjpmhgmoaaDoor.anc
open Go.RowKit Go.Lib
open Go.Proofs.YtkpbfhjpmhgmoaaDoor.gmt (Ok five_new)
open Go.Proofs.YtkpbfhjpmhgmoaaDoor.lbl (encL readL labE lab_len ValidOk CloneOk Tabs)

def labV : ByteArray := ⟨#[118]⟩
theorem ok_v : Ok 1 1 0 14 1 := by unfold Ok; omega
theorem labE_v : labE labV.data.toList = 0 := by decide
theorem good_v : Good 1 1 0 14 (firstA 1 1 labV) := first_good ok_v labE_v
theorem enc_v : (encA (firstA 1 1 labV)).length = 26 := by
  rw [encA_len (good_b ok_v good_v)]
  rfl
theorem hds_one {hs : List HomR} {h : Hom} (e : hds hs = [h]) : ∃ r, hs = [r] ∧ r.d = h := by
  unfold hds at e
  cases hs with
  | nil => cases e
  | cons r t =>
    cases t with
    | nil => exact ⟨r, rfl, by simpa using e⟩
    | cons r' t => simp at e

set_option maxRecDepth 100000 in
set_option maxHeartbeats 4000000 in
theorem wk_anc (hV : ValidOk) (hC : CloneOk) (w : World) (hT : Tabs w) :
    Calls Tryd.prog 17 #[] w fun e w' => e = .returned (.bool true) ∧ Below w.heap.size w w' := by
  have HT := Lib.hid hT
  have hsz : labV.size ≤ 4294967296 := by decide
  have cF : ∀ W, Below w.heap.size w W → Calls Tryd.prog 11 #[.agg #[.int .i64 1, .int .i64 1, .int .i64 0, .int .i64 14, .int .i64 1], .string ⟨#[118]⟩] W fun e w' => AnsA W.heap.size (firstA 1 1 labV) 0 e w' ∧ Below W.heap.size W w' := fun W hW => first_yes hV 1 1 0 14 1 hC labV W (tn HT.out hW) ok_v hsz labE_v
  have HF := Lib.hid cF
  clear cF hT
  go_enter Tryd.func17, Tryd.ntmps17
  go_upto_region 2 with (go_at_call 25; (with_reducible refine (some_zero _).mono ?_); rintro e w1 ⟨rfl, hb1⟩)
  have hx1 := bl w1 (.cells #[.int .i64 1, .int .i64 1, .int .i64 0, .int .i64 14, .int .i64 1] 23)
  have GG := g5_new w1 1 1 0 14 1
  have B1 := bt hb1 hx1
  obtain ⟨gG, hgG⟩ : ∃ g, g = w1.heap.size := ⟨_, rfl⟩
  rw [← hgG] at GG ⊢
  have lG : gG < (w1.alloc (.cells #[.int .i64 1, .int .i64 1, .int .i64 0, .int .i64 14, .int .i64 1] 23)).heap.size := by rw [hgG]; simp
  clear hb1 hx1 hgG
  generalize w1.alloc (.cells #[.int .i64 1, .int .i64 1, .int .i64 0, .int .i64 14, .int .i64 1] 23) = w2 at *
  obtain ⟨g0, g1, g2, g3, g4⟩ := id GG
  go_upto_region 3 with (go_at_call 11; (with_reducible refine (HF.out _ B1).mono ?_); rintro e w3 ⟨⟨x, hex, hxd, hxo⟩, hb3⟩; rw [AV.v] at hex; subst hex)
  have hx3 := bl w3 (.cells #[.int .i64 x.gen, .int .i64 x.ep, .int .i64 x.pos, .int .i64 x.seq, .int .i64 x.last, .string x.lab, .slice x.HA x.hs.length x.hc] 26)
  have B3 := bt (bt B1 hb3) hx3
  have G3 := (GG.keep hb3 lG).keep hx3 (by have := hb3.size; omega)
  have F := ac_new w3 x
  have lG3 : gG < w3.heap.size := by have := hb3.size; omega
  have hxin := AV.Own.inn (OwnH.below hxo hx3)
  obtain ⟨gA, hgA⟩ : ∃ g, g = w3.heap.size := ⟨_, rfl⟩
  rw [← hgA] at F lG3 ⊢
  have lA : gA < (w3.alloc (.cells #[.int .i64 x.gen, .int .i64 x.ep, .int .i64 x.pos, .int .i64 x.seq, .int .i64 x.last, .string x.lab, .slice x.HA x.hs.length x.hc] 26)).heap.size := by rw [hgA]; simp
  have HX := Lib.hid hxin
  have HXD := Lib.hid hxd
  clear g0 g1 g2 g3 g4 GG B1 lG hb3 hx3 hxin hxo hxd HF hgA
  generalize w3.alloc (.cells #[.int .i64 x.gen, .int .i64 x.ep, .int .i64 x.pos, .int .i64 x.seq, .int .i64 x.last, .string x.lab, .slice x.HA x.hs.length x.hc] 26) = w4 at *
  obtain ⟨g0, g1, g2, g3, g4⟩ := id G3
  obtain ⟨c0, c1, c2, c3, c4, c5, c6⟩ := id F
  have cB := bytes_yes hV 1 1 0 14 1 x w4 (tn HT.out B3) ok_v HX.out (by rw [HXD.out]; exact good_v)
  rw [HXD.out, enc_v] at cB
  unfold AV.v at cB
  have HB := Lib.hid cB
  clear cB
  go_upto_region 4 with (go_at_call 12; (with_reducible refine HB.out.mono ?_); rintro e w5 ⟨⟨X5, y5, rfl, -, p5⟩, hb5⟩)
  have B5 := bt B3 hb5
  have G5' := G3.keep hb5 (by omega)
  obtain ⟨A5, c5', hv5, k5, k6, s5, -⟩ := p5.form
  simp only [Value.slice.injEq] at hv5
  obtain ⟨rfl, -, rfl⟩ := hv5
  rw [enc_v] at k5
  have cR := read_yes hV 1 1 0 14 1 X5 y5 26 _ _ w5 (tn HT.out B5) ok_v enc_v s5 k5 k6 (by omega) good_v rfl
  have HR := Lib.hid cR
  clear g0 g1 g2 g3 g4 c0 c1 c2 c3 c4 c5 c6 F HB cR s5 k6 p5 HX HXD
  obtain ⟨g0, g1, g2, g3, g4⟩ := id G5'
  have lG5 : gG < w5.heap.size := by have := hb5.size; omega
  clear G3 B3 hb5 lA lG3
  go_upto_region 5 with (go_at_call 13; (with_reducible refine HR.out.mono ?_); rintro e w6 ⟨⟨y, hey, hyd, hyo⟩, hb6⟩; rw [AV.v] at hey; subst hey)
  obtain ⟨gen, ep, pos, seq, last, lab, HA, hc, hs⟩ := y
  simp only [AV.d, firstA, Anc.mk.injEq] at hyd
  obtain ⟨rfl, rfl, rfl, rfl, rfl, rfl, hhs⟩ := hyd
  obtain ⟨r, rfl, hr⟩ := hds_one (h := newH 1) hhs
  have hyin := AV.Own.inn hyo
  obtain ⟨b1, off, r', hHA, hbb, -, r1, -, -, -, hrr, -⟩ := home_at hyin.hh hyin.hi (k := 0) (by simp)
  obtain rfl : r = r' := by simpa using hrr
  have hHA' : HA = some ⟨b1, off, none⟩ := hHA
  subst hHA'
  rw [show r.nx = 2 from congrArg Hom.nx hr] at r1
  have hx6 := bl w6 (.cells #[.int .i64 1, .int .i64 0, .int .i64 0, .int .i64 1, .int .i64 0, .string labV, .slice (some ⟨b1, off, none⟩) 1 hc] 26)
  have r1' := kst hx6 hbb r1
  have F := ac_new w6 ⟨1, 0, 0, 1, 0, labV, some ⟨b1, off, none⟩, hc, [r]⟩
  have B6 := bt (bt B5 hb6) hx6
  have G6 := (G5'.keep hb6 lG5).keep hx6 (by have := hb6.size; omega)
  have hcl : 1 ≤ hc := hyin.hl.1
  clear hrr hr hHA hhs hyo hyin r1 hbb g0 g1 g2 g3 g4 HR G5' B5 lG5 hx6 hb6
  obtain ⟨c0, c1, c2, c3, c4, c5, c6⟩ := id F
  simp only [List.length_cons, List.length_nil, Nat.zero_add] at c0 c1 c2 c3 c4 c5 c6
  obtain ⟨g0, g1, g2, g3, g4⟩ := id G6
  rw [show off + 0 * 3 + 1 = off + 1 by omega] at r1'
  have cC : ∀ W, Below w.heap.size w W → Calls Tryd.prog 15 #[.agg #[.int .i64 1, .int .i64 1, .int .i64 0, .int .i64 14, .int .i64 1], .agg #[.int .i64 0, .int .i64 0, .int .i64 0, .int .i64 0, .int .i64 0, .string ⟨#[]⟩, .slice none 0 0]] W fun e w' => e = .returned (.int .i64 1) ∧ Below W.heap.size W w' := fun W hW => check_p hV 1 1 0 14 1 false noAV W (tn HT.out hW) ok_v (noAV_own W 0).inn (by decide) (iff_of_false Bool.false_ne_true not_good_no)
  unfold labV at c5 r1' B6 g0 g1 g2 g3 g4 c0 c1 c2 c3 c4 c6 ⊢
  go_wp2_with (go_at_call 15; (with_reducible refine (cC _ B6).mono ?_); rintro e w7 ⟨rfl, hb7⟩)
  go_ret
  exact ⟨rfl, bt B6 hb7⟩
end Go.Proofs.YtkpbfhjpmhgmoaaDoor.anc
