/-
  The law AnchorExact where the geometry is right. Conditions: 'ValidOk', 'CloneOk', 'Tabs'.
-/
import Derived.Test.YtkpbfhjpmhgmoaaDoorAnLI
namespace Go.Proofs.YtkpbfhjpmhgmoaaDoor.anc
open Go.RowKit Go.Lib
open Go.Proofs.YtkpbfhjpmhgmoaaDoor.gmt (Ok five_new rgeo_at)
open Go.Proofs.YtkpbfhjpmhgmoaaDoor.lbl (encL readL labE lab_len ValidOk CloneOk Tabs ref_label)

set_option maxRecDepth 100000 in
set_option maxHeartbeats 16000000 in
theorem ae_go (hV : ValidOk) (hC : CloneOk) (E h f : Int) (Q : Nat) (L : List UInt8) (X1 X2 : Anc) (z d s l a : Int) (x : AV) (lab : ByteArray) (A : Option Addr) (n c : Nat) (w : World) (hT : Tabs w) (hx : x.In w w.heap.size) (hh : ¬ HeavyA x.d) (hl : ¬ 200 < lab.size) (hn : ¬ 300 < n)
    (cF : ∀ W, Below w.heap.size w W → Calls Tryd.prog 11 #[.agg #[.int .i64 z, .int .i64 d, .int .i64 s, .int .i64 l, .int .i64 a], .string lab] W fun e w' => AnsA W.heap.size X1 E e w' ∧ Below W.heap.size W w')
    (cB : ∀ W (u : AV), Below w.heap.size w W → u.In W W.heap.size → u.d = x.d → Calls Tryd.prog 12 #[.agg #[.int .i64 z, .int .i64 d, .int .i64 s, .int .i64 l, .int .i64 a], u.v] W fun e w' => BytQ f Q L e w' ∧ Below W.heap.size W w')
    (cR : ∀ W, Below w.heap.size w W → Calls Tryd.prog 13 #[.agg #[.int .i64 z, .int .i64 d, .int .i64 s, .int .i64 l, .int .i64 a], .slice A n c] W fun e w' => AnsA W.heap.size X2 h e w' ∧ Below W.heap.size W w') (gd ok : Bool) (ho : Ok z d s l a) (hE : labE lab.data.toList = E) (hX1 : (E = 0 ∧ X1 = firstA z d lab) ∨ (E ≠ 0 ∧ X1 = noAnc)) (hX2 : (ok = true ∧ h = 0) ∨ (ok = false ∧ h = 4)) (fw1 : Few X1) (fw2 : Few X2) (hgd : gd = true ↔ Good z d s l x.d)
    (cA : ∀ W, Below w.heap.size w W → Calls Tryd.prog 20 #[.agg #[.int .i64 z, .int .i64 d, .int .i64 s, .int .i64 l, .int .i64 a], .slice A n c] W fun e w' => RdQ W.heap.size X2 ok e w' ∧ Below W.heap.size W w')
    (hf : (gd = true ∧ f = 0 ∧ L = encA x.d) ∨ (gd = false ∧ f = 1 ∧ Q = 0)) (hQ : L.length = Q) :
    Calls Tryd.prog 3 #[.agg #[.int .i64 z, .int .i64 d, .int .i64 s, .int .i64 l, .int .i64 a], x.v, .string lab, .slice A n c] w fun e w' => e = .returned (.bool true) ∧ Below w.heap.size w w' := by
  have HO := Lib.hid ho
  have HE := Lib.hid hE
  have HX1 := Lib.hid hX1
  have HX2 := Lib.hid hX2
  have HW1 := Lib.hid fw1
  have HW2 := Lib.hid fw2
  have HGD := Lib.hid hgd
  have HRA := Lib.hid cA
  have HFF := Lib.hid hf
  have HQ := Lib.hid hQ
  have hl48 : lab.size ≤ 281474976710656 := by omega
  clear ho hE hX1 hX2 fw1 fw2 hgd cA hf hQ
  obtain ⟨t1, t2, t3⟩ := light hh
  have HT := Lib.hid hT
  have cH := fun W (hW : Below w.heap.size w W) => heavy_any false x W (hx.next hW) (iff_of_false Bool.false_ne_true hh)
  have cT := fun W (hW : Below w.heap.size w W) => twin_parted x W (hx.next hW) (by omega) (fun r hr => by have := t3 r hr; omega)
  have i1 : ¬ (200 : Int) < (lab.size : Int) := by omega
  have i2 : ¬ (300 : Int) < (n : Int) := by omega
  have HX := Lib.hid hx
  have HS := Lib.hid (show Few x.d from fun v hv => by
    have hln : v.hs.length = x.hs.length := (hds_length v.hs).symm.trans ((congrArg (fun u : Anc => u.hs.length) hv).trans (hds_length x.hs))
    refine ⟨by omega, fun r hr => ?_⟩
    have h1 : r.d ∈ hds x.hs := by rw [show hds x.hs = hds v.hs from (congrArg Anc.hs hv).symm]; exact List.mem_map_of_mem hr
    obtain ⟨q, hq, he⟩ := List.mem_map.1 h1
    have h2 := t3 q hq
    have h3 : q.ps = r.ps := congrArg Hom.ps he
    rw [h3] at h2
    omega)
  have HF := Lib.hid cF
  have HB := Lib.hid cB
  have HR := Lib.hid cR
  unfold AV.v
  have GG := (g5_new w z d s l a).keep (bl (w.alloc (.cells #[.int .i64 z, .int .i64 d, .int .i64 s, .int .i64 l, .int .i64 a] 23)) (.cells #[.int .i64 x.gen, .int .i64 x.ep, .int .i64 x.pos, .int .i64 x.seq, .int .i64 x.last, .string x.lab, .slice x.HA x.hs.length x.hc] 26)) (by simp)
  have FF := ac_new (w.alloc (.cells #[.int .i64 z, .int .i64 d, .int .i64 s, .int .i64 l, .int .i64 a] 23)) x
  have hb0 := kal (bl w (.cells #[.int .i64 z, .int .i64 d, .int .i64 s, .int .i64 l, .int .i64 a] 23)) (.cells #[.int .i64 x.gen, .int .i64 x.ep, .int .i64 x.pos, .int .i64 x.seq, .int .i64 x.last, .string x.lab, .slice x.HA x.hs.length x.hc] 26)
  rw [show (w.alloc (.cells #[.int .i64 z, .int .i64 d, .int .i64 s, .int .i64 l, .int .i64 a] 23)).heap.size = w.heap.size + 1 by simp] at FF
  have l1 : w.heap.size + 1 < ((w.alloc (.cells #[.int .i64 z, .int .i64 d, .int .i64 s, .int .i64 l, .int .i64 a] 23)).alloc (.cells #[.int .i64 x.gen, .int .i64 x.ep, .int .i64 x.pos, .int .i64 x.seq, .int .i64 x.last, .string x.lab, .slice x.HA x.hs.length x.hc] 26)).heap.size := by simp
  unfold AV.v at cH cT
  clear hx hh t1 t3 hT cF cB cR hl hn
  go_enter Tryd.func3, Tryd.ntmps3
  go_upto_region 1 with fail
  generalize (w.alloc (.cells #[.int .i64 z, .int .i64 d, .int .i64 s, .int .i64 l, .int .i64 a] 23)).alloc (.cells #[.int .i64 x.gen, .int .i64 x.ep, .int .i64 x.pos, .int .i64 x.seq, .int .i64 x.last, .string x.lab, .slice x.HA x.hs.length x.hc] 26) = w0 at *
  obtain ⟨c0, c1, c2, c3, c4, c5, c6⟩ := id FF
  obtain ⟨g0, g1, g2, g3, g4⟩ := id GG
  go_upto_region 4 with (first
    | (go_at_call 9; (with_reducible refine (cH _ hb0).mono ?_); rintro e wq ⟨rfl, hbq⟩; replace FF := FF.keep hbq (by omega); replace GG := GG.keep hbq (by omega); replace l1 := Nat.lt_of_lt_of_le l1 hbq.size; clear c0 c1 c2 c3 c4 c5 c6 g0 g1 g2 g3 g4; obtain ⟨c0, c1, c2, c3, c4, c5, c6⟩ := id FF; obtain ⟨g0, g1, g2, g3, g4⟩ := id GG; replace hb0 := bt hb0 hbq; clear hbq)
    | (go_at_call 10; (with_reducible refine (cT _ hb0).mono ?_); rintro e wT ⟨⟨u, rfl, hud, huo, -⟩, hbq⟩; replace FF := FF.keep hbq (by omega); replace GG := GG.keep hbq (by omega); replace l1 := Nat.lt_of_lt_of_le l1 hbq.size; clear c0 c1 c2 c3 c4 c5 c6 g0 g1 g2 g3 g4; obtain ⟨c0, c1, c2, c3, c4, c5, c6⟩ := id FF; obtain ⟨g0, g1, g2, g3, g4⟩ := id GG; replace hb0 := bt hb0 hbq; clear hbq))
  have huin := AV.Own.inn huo
  clear huo
  have hxA := bl wT (.cells #[.int .i64 u.gen, .int .i64 u.ep, .int .i64 u.pos, .int .i64 u.seq, .int .i64 u.last, .string u.lab, .slice u.HA u.hs.length u.hc] 26)
  have FU := ac_new wT u
  have lu : wT.heap.size < (wT.alloc (.cells #[.int .i64 u.gen, .int .i64 u.ep, .int .i64 u.pos, .int .i64 u.seq, .int .i64 u.last, .string u.lab, .slice u.HA u.hs.length u.hc] 26)).heap.size := by simp
  obtain ⟨gu, hgu⟩ : ∃ g, g = wT.heap.size := ⟨_, rfl⟩
  replace FF := FF.keep hxA (by omega)
  replace GG := GG.keep hxA (by omega)
  replace hb0 := bt hb0 hxA
  rw [← hgu] at FU lu l1 ⊢
  have huinb := Lib.hid (huin.next hxA)
  clear hxA hgu huin c0 c1 c2 c3 c4 c5 c6 g0 g1 g2 g3 g4
  generalize wT.alloc (.cells #[.int .i64 u.gen, .int .i64 u.ep, .int .i64 u.pos, .int .i64 u.seq, .int .i64 u.last, .string u.lab, .slice u.HA u.hs.length u.hc] 26) = w1 at *
  obtain ⟨c0, c1, c2, c3, c4, c5, c6⟩ := id FF
  obtain ⟨g0, g1, g2, g3, g4⟩ := id GG
  go_upto_region 5 with (go_at_call 11; (with_reducible refine (HF.out _ hb0).mono ?_); rintro e wF ⟨⟨v, hev, hvd, hvo⟩, hbq⟩; rw [AV.v] at hev; subst hev; have huinc := Lib.hid (huinb.out.next hbq); obtain ⟨d0, d1, d2, d3, d4, d5, d6⟩ := id FU; replace FF := FF.keep hbq (by omega); replace GG := GG.keep hbq (by omega); replace FU := FU.keep hbq (by omega); replace lu := Nat.lt_of_lt_of_le lu hbq.size; clear c0 c1 c2 c3 c4 c5 c6 g0 g1 g2 g3 g4 d0 d1 d2 d3 d4 d5 d6; obtain ⟨c0, c1, c2, c3, c4, c5, c6⟩ := id FF; obtain ⟨g0, g1, g2, g3, g4⟩ := id GG; obtain ⟨d0, d1, d2, d3, d4, d5, d6⟩ := id FU; replace hb0 := bt hb0 hbq; clear hbq)
  have hvin := AV.Own.inn hvo
  clear hvo huinb
  have hxA := bl wF (.cells #[.int .i64 v.gen, .int .i64 v.ep, .int .i64 v.pos, .int .i64 v.seq, .int .i64 v.last, .string v.lab, .slice v.HA v.hs.length v.hc] 26)
  have FV := ac_new wF v
  have lv : wF.heap.size < (wF.alloc (.cells #[.int .i64 v.gen, .int .i64 v.ep, .int .i64 v.pos, .int .i64 v.seq, .int .i64 v.last, .string v.lab, .slice v.HA v.hs.length v.hc] 26)).heap.size := by simp
  obtain ⟨gv, hgv⟩ : ∃ g, g = wF.heap.size := ⟨_, rfl⟩
  replace FF := FF.keep hxA (by omega)
  replace GG := GG.keep hxA (by omega)
  replace FU := FU.keep hxA (by omega)
  replace hb0 := bt hb0 hxA
  rw [← hgv] at FV lv lu ⊢
  have huind := Lib.hid (huinc.out.next hxA)
  have hvinb := Lib.hid (hvin.next hxA)
  clear hxA hgv hvin c0 c1 c2 c3 c4 c5 c6 g0 g1 g2 g3 g4 d0 d1 d2 d3 d4 d5 d6
  generalize wF.alloc (.cells #[.int .i64 v.gen, .int .i64 v.ep, .int .i64 v.pos, .int .i64 v.seq, .int .i64 v.last, .string v.lab, .slice v.HA v.hs.length v.hc] 26) = w2 at *
  clear huinc
  obtain ⟨c0, c1, c2, c3, c4, c5, c6⟩ := id FF
  obtain ⟨g0, g1, g2, g3, g4⟩ := id GG
  obtain ⟨d0, d1, d2, d3, d4, d5, d6⟩ := id FU
  have HBU := Lib.hid (show ∀ W, Below w2.heap.size w2 W → Calls Tryd.prog 12 #[.agg #[.int .i64 z, .int .i64 d, .int .i64 s, .int .i64 l, .int .i64 a], u.v] W fun e w' => BytQ f Q L e w' ∧ Below W.heap.size W w' from fun W hW => HB.out W u (bt hb0 hW) (huind.out.next hW) hud)
  unfold AV.v at HBU
  obtain ⟨e0, e1, e2, e3, e4, e5, e6⟩ := id FV
  go_upto_region 6 with (go_at_call 12; (with_reducible refine (HBU.out _ (Below.refl _ _)).mono ?_); rintro e wB ⟨⟨Y, yc, rfl, hY⟩, hbq⟩; have huine := Lib.hid (huind.out.next hbq); have hvine := Lib.hid (hvinb.out.next hbq); replace FF := FF.keep hbq (by omega); replace GG := GG.keep hbq (by omega); replace FU := FU.keep hbq (by omega); replace FV := FV.keep hbq (by omega); replace lv := Nat.lt_of_lt_of_le lv hbq.size; clear c0 c1 c2 c3 c4 c5 c6 g0 g1 g2 g3 g4 d0 d1 d2 d3 d4 d5 d6 e0 e1 e2 e3 e4 e5 e6; obtain ⟨c0, c1, c2, c3, c4, c5, c6⟩ := id FF; obtain ⟨g0, g1, g2, g3, g4⟩ := id GG; obtain ⟨d0, d1, d2, d3, d4, d5, d6⟩ := id FU; obtain ⟨e0, e1, e2, e3, e4, e5, e6⟩ := id FV; replace hb0 := bt hb0 hbq; clear hbq)
  clear huind hvinb HBU
  go_upto_region 7 with (go_at_call 13; (with_reducible refine (HR.out _ hb0).mono ?_); rintro e wR ⟨⟨t, het, htd, hto⟩, hbq⟩; rw [AV.v] at het; subst het; replace huine := Lib.hid (huine.out.next hbq); replace hvine := Lib.hid (hvine.out.next hbq); replace hY := hY.next hbq; replace FF := FF.keep hbq (by omega); replace GG := GG.keep hbq (by omega); replace FU := FU.keep hbq (by omega); replace FV := FV.keep hbq (by omega); replace lv := Nat.lt_of_lt_of_le lv hbq.size; clear c0 c1 c2 c3 c4 c5 c6 g0 g1 g2 g3 g4 d0 d1 d2 d3 d4 d5 d6 e0 e1 e2 e3 e4 e5 e6; obtain ⟨c0, c1, c2, c3, c4, c5, c6⟩ := id FF; obtain ⟨g0, g1, g2, g3, g4⟩ := id GG; obtain ⟨d0, d1, d2, d3, d4, d5, d6⟩ := id FU; obtain ⟨e0, e1, e2, e3, e4, e5, e6⟩ := id FV; replace hb0 := bt hb0 hbq; clear hbq)
  have htin := AV.Own.inn hto
  clear hto
  have hxA := bl wR (.cells #[.int .i64 t.gen, .int .i64 t.ep, .int .i64 t.pos, .int .i64 t.seq, .int .i64 t.last, .string t.lab, .slice t.HA t.hs.length t.hc] 26)
  have FT := ac_new wR t
  have lt : wR.heap.size < (wR.alloc (.cells #[.int .i64 t.gen, .int .i64 t.ep, .int .i64 t.pos, .int .i64 t.seq, .int .i64 t.last, .string t.lab, .slice t.HA t.hs.length t.hc] 26)).heap.size := by simp
  obtain ⟨gt, hgt⟩ : ∃ g, g = wR.heap.size := ⟨_, rfl⟩
  replace FF := FF.keep hxA (by omega)
  replace GG := GG.keep hxA (by omega)
  replace FU := FU.keep hxA (by omega)
  replace FV := FV.keep hxA (by omega)
  replace hb0 := bt hb0 hxA
  rw [← hgt] at FT lt lv ⊢
  have huinf := Lib.hid (huine.out.next hxA)
  have hvinf := Lib.hid (hvine.out.next hxA)
  replace hY := hY.next hxA
  have htinb := Lib.hid (htin.next hxA)
  clear hxA hgt htin c0 c1 c2 c3 c4 c5 c6 g0 g1 g2 g3 g4 d0 d1 d2 d3 d4 d5 d6 e0 e1 e2 e3 e4 e5 e6
  generalize wR.alloc (.cells #[.int .i64 t.gen, .int .i64 t.ep, .int .i64 t.pos, .int .i64 t.seq, .int .i64 t.last, .string t.lab, .slice t.HA t.hs.length t.hc] 26) = w3 at *
  clear huine hvine
  obtain ⟨g0, g1, g2, g3, g4⟩ := id GG
  go_upto_region 8 with fail
  have hxA := bl w3 (.cells #[.int .i64 0, .int .i64 0, .int .i64 0, .int .i64 0, .int .i64 0, .string ⟨#[]⟩, .slice none 0 0] 26)
  have FN := ac_new w3 noAV
  have ln : w3.heap.size < (w3.alloc (.cells #[.int .i64 0, .int .i64 0, .int .i64 0, .int .i64 0, .int .i64 0, .string ⟨#[]⟩, .slice none 0 0] 26)).heap.size := by simp
  have VV : Vars (w3.alloc (.cells #[.int .i64 0, .int .i64 0, .int .i64 0, .int .i64 0, .int .i64 0, .string ⟨#[]⟩, .slice none 0 0] 26)) w.heap.size z d s l a x u v t gu gv gt w3.heap.size := ⟨GG.keep hxA (by omega), FF.keep hxA (by omega), FU.keep hxA (by omega), FV.keep hxA (by omega), FT.keep hxA lt, FN⟩
  replace hb0 := bt hb0 hxA
  have HU := Lib.hid (huinf.out.next hxA)
  have HVI := Lib.hid (hvinf.out.next hxA)
  have HTI := Lib.hid (htinb.out.next hxA)
  replace hY := hY.next hxA
  obtain ⟨gn, hgn⟩ : ∃ g, g = w3.heap.size := ⟨_, rfl⟩
  rw [← hgn] at VV ln lt ⊢
  clear hgn hxA FN GG FF FU FV FT huinf hvinf htinb g0 g1 g2 g3 g4
  unfold AV.v at *
  generalize w3.alloc (.cells #[.int .i64 0, .int .i64 0, .int .i64 0, .int .i64 0, .int .i64 0, .string ⟨#[]⟩, .slice none 0 0] 26) = w8 at *
  have hb8 := Below.refl w8.heap.size w8
  have HG := Lib.hid (show ∀ W, Calls Tryd.prog 14 #[.agg #[.int .i64 z, .int .i64 d, .int .i64 s, .int .i64 l, .int .i64 a]] W fun e w' => e = .returned (.bool true) ∧ Below W.heap.size W w' from fun W => rgeo_at true z d s l a W (iff_of_true rfl HO.out))
  have HLB := Lib.hid (show ∀ W, Calls Tryd.prog 18 #[.string lab] W fun e w' => e = .returned (.int .i64 E) ∧ W = w' from fun W => by
    have h9 := ref_label lab W hl48
    rwa [HE.out] at h9)
  obtain ⟨g0, g1, g2, g3, g4⟩ := id VV.G; obtain ⟨c0, c1, c2, c3, c4, c5, c6⟩ := id VV.X; obtain ⟨d0, d1, d2, d3, d4, d5, d6⟩ := id VV.U; obtain ⟨e0, e1, e2, e3, e4, e5, e6⟩ := id VV.V; obtain ⟨k0, k1, k2, k3, k4, k5, k6⟩ := id VV.T; obtain ⟨n0, n1, n2, n3, n4, n5, n6⟩ := zero_at VV.N
  go_upto_region 11 with (first
    | (go_at_call 14; (with_reducible refine (HG.out _).mono ?_); rintro e w9 ⟨rfl, hbq⟩; replace VV := VV.keep hbq l1 lu lv lt ln; replace ln := Nat.lt_of_lt_of_le ln hbq.size; clear g0 g1 g2 g3 g4 c0 c1 c2 c3 c4 c5 c6 d0 d1 d2 d3 d4 d5 d6 e0 e1 e2 e3 e4 e5 e6 k0 k1 k2 k3 k4 k5 k6 n0 n1 n2 n3 n4 n5 n6; obtain ⟨g0, g1, g2, g3, g4⟩ := id VV.G; obtain ⟨c0, c1, c2, c3, c4, c5, c6⟩ := id VV.X; obtain ⟨d0, d1, d2, d3, d4, d5, d6⟩ := id VV.U; obtain ⟨e0, e1, e2, e3, e4, e5, e6⟩ := id VV.V; obtain ⟨k0, k1, k2, k3, k4, k5, k6⟩ := id VV.T; obtain ⟨n0, n1, n2, n3, n4, n5, n6⟩ := zero_at VV.N; replace hb0 := bt hb0 hbq; replace hb8 := bt hb8 hbq; replace HU := Lib.hid (HU.out.next hbq); replace HVI := Lib.hid (HVI.out.next hbq); replace HTI := Lib.hid (HTI.out.next hbq); replace hY := hY.next hbq; clear hbq)
    | (go_at_call 18; (with_reducible refine (HLB.out _).mono ?_); rintro e wl ⟨rfl, rfl⟩))
  have HVV := Lib.hid (show ∀ W, Below w9.heap.size w9 W → Vars W w.heap.size z d s l a x u v t gu gv gt gn from fun W hW => VV.keep hW l1 lu lv lt ln)
  have HY := Lib.hid hY
  have hb9 := Below.refl w9.heap.size w9
  clear g0 g1 g2 g3 g4 c0 c1 c2 c3 c4 c5 c6 d0 d1 d2 d3 d4 d5 d6 e0 e1 e2 e3 e4 e5 e6 k0 k1 k2 k3 k4 k5 k6 n0 n1 n2 n3 n4 n5 n6 hb8 HG HLB hY
  go_cut [116] from 92 to 116 (fun r wx => r = .bool false ∧ Below w9.heap.size w9 wx)
  case first =>
    rcases HX1.out with ⟨hE0, hX1⟩ | ⟨hE0, hX1⟩
    · have HA2 := Lib.hid (show ∀ W (y : AV), Below w9.heap.size w9 W → y.In W W.heap.size → y.d = firstA z d lab → Calls Tryd.prog 16 #[.agg #[.int .i64 v.gen, .int .i64 v.ep, .int .i64 v.pos, .int .i64 v.seq, .int .i64 v.last, .string v.lab, .slice v.HA v.hs.length v.hc], .agg #[.int .i64 y.gen, .int .i64 y.ep, .int .i64 y.pos, .int .i64 y.seq, .int .i64 y.last, .string y.lab, .slice y.HA y.hs.length y.hc]] W fun e w' => e = .returned (.bool true) ∧ Below W.heap.size W w' from fun W y hW hy hyd => by
        have h9 := anchor_any v y W (HVI.out.next hW) hy (HW1.out v hvd).1 (HW1.out v hvd).2
        rwa [decide_eq_true (show v.d = y.d from hvd.trans (hX1.trans hyd.symm))] at h9)
      have HFS := Lib.hid (show ∀ W, Below w9.heap.size w9 W → W.cell? ⟨gv, 0, none⟩ = some (.int .i64 v.gen) ∧ W.cell? ⟨gv, 1, none⟩ = some (.int .i64 v.ep) ∧ W.cell? ⟨gv, 2, none⟩ = some (.int .i64 v.pos) ∧ W.cell? ⟨gv, 3, none⟩ = some (.int .i64 v.seq) ∧ W.cell? ⟨gv, 4, none⟩ = some (.int .i64 v.last) ∧ W.cell? ⟨gv, 5, none⟩ = some (.string v.lab) ∧ W.cell? ⟨gv, 6, none⟩ = some (.slice v.HA v.hs.length v.hc) ∧ W.cell? ⟨w.heap.size, 0, none⟩ = some (.int .i64 z) ∧ W.cell? ⟨w.heap.size, 1, none⟩ = some (.int .i64 d) ∧ W.cell? ⟨w.heap.size, 2, none⟩ = some (.int .i64 s) ∧ W.cell? ⟨w.heap.size, 3, none⟩ = some (.int .i64 l) ∧ W.cell? ⟨w.heap.size, 4, none⟩ = some (.int .i64 a) ∧ Below w9.heap.size w9 W from fun W hW => ⟨(HVV.out W hW).V.c0, (HVV.out W hW).V.c1, (HVV.out W hW).V.c2, (HVV.out W hW).V.c3, (HVV.out W hW).V.c4, (HVV.out W hW).V.c5, (HVV.out W hW).V.c6, (HVV.out W hW).G.g0, (HVV.out W hW).G.g1, (HVV.out W hW).G.g2, (HVV.out W hW).G.g3, (HVV.out W hW).G.g4, hW⟩)
      subst hE0
      clear hX1
      refine wp_region_held_drew (S := fun W => W.cell? ⟨gv, 0, none⟩ = some (.int .i64 v.gen) ∧ W.cell? ⟨gv, 1, none⟩ = some (.int .i64 v.ep) ∧ W.cell? ⟨gv, 2, none⟩ = some (.int .i64 v.pos) ∧ W.cell? ⟨gv, 3, none⟩ = some (.int .i64 v.seq) ∧ W.cell? ⟨gv, 4, none⟩ = some (.int .i64 v.last) ∧ W.cell? ⟨gv, 5, none⟩ = some (.string v.lab) ∧ W.cell? ⟨gv, 6, none⟩ = some (.slice v.HA v.hs.length v.hc) ∧ W.cell? ⟨w.heap.size, 0, none⟩ = some (.int .i64 z) ∧ W.cell? ⟨w.heap.size, 1, none⟩ = some (.int .i64 d) ∧ W.cell? ⟨w.heap.size, 2, none⟩ = some (.int .i64 s) ∧ W.cell? ⟨w.heap.size, 3, none⟩ = some (.int .i64 l) ∧ W.cell? ⟨w.heap.size, 4, none⟩ = some (.int .i64 a) ∧ Below w9.heap.size w9 W) (by kernel_rfl) (HFS.out _ (below_dr (Below.refl w9.heap.size w9))) (fun hHeld => ?_)
      (refine wpAnyH_take (i := 0) (v := ?_) rfl (by kernel_rfl) (by kernel_rfl) (by kernel_rfl) (fun _ _ _ h => h) (Or.inl ⟨by rfl, ?_⟩) (by assumption) ?_; rotate_left; (focus (intro w hSw; (try dsimp only at hSw); go_split_ands; go_simp <;> with_reducible rfl)); simp only [List.getElem_toArray, List.getElem_cons_zero, Act.put, List.setIfInBounds_toArray, List.set_cons_zero, List.set_cons_succ])
      (refine wpAnyH_take (i := 1) (v := ?_) rfl (by kernel_rfl) (by kernel_rfl) (by kernel_rfl) (fun _ _ _ h => h) (Or.inl ⟨by rfl, ?_⟩) (by assumption) ?_; rotate_left; (focus (intro w hSw; (try dsimp only at hSw); go_split_ands; go_simp <;> with_reducible rfl)); simp only [List.getElem_toArray, List.getElem_cons_zero, List.getElem_cons_succ, Act.put, List.setIfInBounds_toArray, List.set_cons_zero, List.set_cons_succ])
      (refine wpAnyH_take (i := 2) (v := ?_) rfl (by kernel_rfl) (by kernel_rfl) (by kernel_rfl) (fun _ _ _ h => h) (Or.inl ⟨by rfl, ?_⟩) (by assumption) ?_; rotate_left; (focus (intro w hSw; (try dsimp only at hSw); go_split_ands; go_simp <;> with_reducible rfl)); simp only [List.getElem_toArray, List.getElem_cons_zero, List.getElem_cons_succ, Act.put, List.setIfInBounds_toArray, List.set_cons_zero, List.set_cons_succ])
      (refine wpAnyH_take (i := 3) (v := ?_) rfl (by kernel_rfl) (by kernel_rfl) (by kernel_rfl) (fun _ _ _ h => h) (Or.inl ⟨by rfl, ?_⟩) (by assumption) ?_; rotate_left; (focus (intro w hSw; (try dsimp only at hSw); go_split_ands; go_simp <;> with_reducible rfl)); simp only [List.getElem_toArray, List.getElem_cons_zero, List.getElem_cons_succ, Act.put, List.setIfInBounds_toArray, List.set_cons_zero, List.set_cons_succ])
      (refine wpAnyH_take (i := 4) (v := ?_) rfl (by kernel_rfl) (by kernel_rfl) (by kernel_rfl) (fun _ _ _ h => h) (Or.inl ⟨by rfl, ?_⟩) (by assumption) ?_; rotate_left; (focus (intro w hSw; (try dsimp only at hSw); go_split_ands; go_simp <;> with_reducible rfl)); simp only [List.getElem_toArray, List.getElem_cons_zero, List.getElem_cons_succ, Act.put, List.setIfInBounds_toArray, List.set_cons_zero, List.set_cons_succ])
      (refine wpAnyH_take (i := 5) (v := ?_) rfl (by kernel_rfl) (by kernel_rfl) (by kernel_rfl) (fun _ _ _ h => h) (Or.inl ⟨by rfl, ?_⟩) (by assumption) ?_; rotate_left; (focus (intro w hSw; (try dsimp only at hSw); go_split_ands; go_simp <;> with_reducible rfl)); simp only [List.getElem_toArray, List.getElem_cons_zero, List.getElem_cons_succ, Act.put, List.setIfInBounds_toArray, List.set_cons_zero, List.set_cons_succ])
      (refine wpAnyH_take (i := 6) (v := ?_) rfl (by kernel_rfl) (by kernel_rfl) (by kernel_rfl) (fun _ _ _ h => h) (Or.inl ⟨by rfl, ?_⟩) (by assumption) ?_; rotate_left; (focus (intro w hSw; (try dsimp only at hSw); go_split_ands; go_simp <;> with_reducible rfl)); simp only [List.getElem_toArray, List.getElem_cons_zero, List.getElem_cons_succ, Act.put, List.setIfInBounds_toArray, List.set_cons_zero, List.set_cons_succ])
      (refine wpAnyH_take (i := 7) (v := ?_) rfl (by kernel_rfl) (by kernel_rfl) (by kernel_rfl) (fun _ _ _ h => h) (Or.inl ⟨by rfl, ?_⟩) (by assumption) ?_; rotate_left; (focus (intro w hSw; (try dsimp only at hSw); go_split_ands; go_simp <;> with_reducible rfl)); simp only [List.getElem_toArray, List.getElem_cons_zero, List.getElem_cons_succ, Act.put, List.setIfInBounds_toArray, List.set_cons_zero, List.set_cons_succ])
      (refine wpAnyH_take (i := 8) (v := ?_) rfl (by kernel_rfl) (by kernel_rfl) (by kernel_rfl) (fun _ _ _ h => h) (Or.inl ⟨by rfl, ?_⟩) (by assumption) ?_; rotate_left; (focus (intro w hSw; (try dsimp only at hSw); go_split_ands; go_simp <;> with_reducible rfl)); simp only [List.getElem_toArray, List.getElem_cons_zero, List.getElem_cons_succ, Act.put, List.setIfInBounds_toArray, List.set_cons_zero, List.set_cons_succ])
      (refine wpAnyH_take (i := 9) (v := ?_) rfl (by kernel_rfl) (by kernel_rfl) (by kernel_rfl) (fun _ _ _ h => h) (Or.inl ⟨by rfl, ?_⟩) (by assumption) ?_; rotate_left; (focus (intro w hSw; (try dsimp only at hSw); go_split_ands; go_simp <;> with_reducible rfl)); simp only [List.getElem_toArray, List.getElem_cons_zero, List.getElem_cons_succ, Act.put, List.setIfInBounds_toArray, List.set_cons_zero, List.set_cons_succ])
      refine wpAnyH_ready (rs := [10]) (by kernel_rfl) (by simp) ?_
      refine AllReadyH.cons rfl (fun K hK => ?_) AllReadyH.nil
      go_simp
      (with_reducible refine (rfirst_any z d s l a lab _ HO.out).mono ?_)
      rintro e wB ⟨⟨y, rfl, hyd, hyo⟩, hbB⟩
      have hbX : Below w9.heap.size w9 wB := bt (below_dr (Below.refl w9.heap.size w9)) hbB
      have hyin := AV.Own.inn hyo
      clear hyo
      refine hK.out _ _ (HFS.out _ hbX) (fun hS2 => ?_)
      clear hK K
      try simp only [Act.put, List.setIfInBounds_toArray, List.set_cons_zero, List.set_cons_succ]
      refine wpAnyH_ready (rs := [11]) (by kernel_rfl) (by simp) ?_
      refine AllReadyH.cons rfl (fun K hK => ?_) AllReadyH.nil
      go_simp
      unfold AV.v
      (with_reducible refine (HA2.out _ y hbX hyin hyd).mono ?_)
      rintro e wC ⟨rfl, hbC⟩
      have hbX2 : Below w9.heap.size w9 wC := bt hbX hbC
      refine hK.out _ _ (HFS.out _ hbX2) (fun hS2 => ?_)
      clear hK K
      try simp only [Act.put, List.setIfInBounds_toArray, List.set_cons_zero, List.set_cons_succ]
      (refine wpAnyH_take (i := 12) (v := ?_) rfl (by kernel_rfl) (by kernel_rfl) (by kernel_rfl) (fun _ _ _ h => h) (Or.inl ⟨by rfl, ?_⟩) (by assumption) ?_; rotate_left; (focus (intro w hSw; (try dsimp only at hSw); go_split_ands; go_simp <;> with_reducible rfl)); simp only [List.getElem_toArray, List.getElem_cons_zero, List.getElem_cons_succ, Act.put, List.setIfInBounds_toArray, List.set_cons_zero, List.set_cons_succ])
      (refine wpAnyH_take (i := 13) (v := ?_) rfl (by kernel_rfl) (by kernel_rfl) (by kernel_rfl) (fun _ _ _ h => h) (Or.inl ⟨by rfl, ?_⟩) (by assumption) ?_; rotate_left; (focus (intro w hSw; (try dsimp only at hSw); go_split_ands; go_simp <;> with_reducible rfl)); simp only [List.getElem_toArray, List.getElem_cons_zero, List.getElem_cons_succ, Act.put, List.setIfInBounds_toArray, List.set_cons_zero, List.set_cons_succ])
      (refine wpAnyH_take (i := 14) (v := ?_) rfl (by kernel_rfl) (by kernel_rfl) (by kernel_rfl) (fun _ _ _ h => h) (Or.inl ⟨by rfl, ?_⟩) (by assumption) ?_; rotate_left; (focus (intro w hSw; (try dsimp only at hSw); go_split_ands; go_simp <;> with_reducible rfl)); simp only [List.getElem_toArray, List.getElem_cons_zero, List.getElem_cons_succ, Act.put, List.setIfInBounds_toArray, List.set_cons_zero, List.set_cons_succ])
      (refine wpAnyH_take (i := 15) (v := ?_) rfl (by kernel_rfl) (by kernel_rfl) (by kernel_rfl) (fun _ _ _ h => h) (Or.inl ⟨by rfl, ?_⟩) (by assumption) ?_; rotate_left; (focus (intro w hSw; (try dsimp only at hSw); go_split_ands; go_simp <;> with_reducible rfl)); simp only [List.getElem_toArray, List.getElem_cons_zero, List.getElem_cons_succ, Act.put, List.setIfInBounds_toArray, List.set_cons_zero, List.set_cons_succ])
      (refine wpAnyH_take (i := 16) (v := ?_) rfl (by kernel_rfl) (by kernel_rfl) (by kernel_rfl) (fun _ _ _ h => h) (Or.inl ⟨by rfl, ?_⟩) (by assumption) ?_; rotate_left; (focus (intro w hSw; (try dsimp only at hSw); go_split_ands; go_simp <;> with_reducible rfl)); simp only [List.getElem_toArray, List.getElem_cons_zero, List.getElem_cons_succ, Act.put, List.setIfInBounds_toArray, List.set_cons_zero, List.set_cons_succ])
      (refine wpAnyH_take (i := 17) (v := ?_) rfl (by kernel_rfl) (by kernel_rfl) (by kernel_rfl) (fun _ _ _ h => h) (Or.inl ⟨by rfl, ?_⟩) (by assumption) ?_; rotate_left; (focus (intro w hSw; (try dsimp only at hSw); go_split_ands; go_simp <;> with_reducible rfl)); simp only [List.getElem_toArray, List.getElem_cons_zero, List.getElem_cons_succ, Act.put, List.setIfInBounds_toArray, List.set_cons_zero, List.set_cons_succ])
      (refine wpAnyH_take (i := 18) (v := ?_) rfl (by kernel_rfl) (by kernel_rfl) (by kernel_rfl) (fun _ _ _ h => h) (Or.inl ⟨by rfl, ?_⟩) (by assumption) ?_; rotate_left; (focus (intro w hSw; (try dsimp only at hSw); go_split_ands; go_simp <;> with_reducible rfl)); simp only [List.getElem_toArray, List.getElem_cons_zero, List.getElem_cons_succ, Act.put, List.setIfInBounds_toArray, List.set_cons_zero, List.set_cons_succ])
      (refine wpAnyH_take (i := 19) (v := undef) rfl (by kernel_rfl) (by kernel_rfl) (by kernel_rfl) (fun _ _ _ h => h) (Or.inr ⟨by rfl, rfl⟩) (by assumption) ?_; simp only [List.getElem_toArray, List.getElem_cons_zero, List.getElem_cons_succ, Act.put, List.setIfInBounds_toArray, List.set_cons_zero, List.set_cons_succ])
      (refine wpAnyH_take (i := 20) (v := undef) rfl (by kernel_rfl) (by kernel_rfl) (by kernel_rfl) (fun _ _ _ h => h) (Or.inr ⟨by rfl, rfl⟩) (by assumption) ?_; simp only [List.getElem_toArray, List.getElem_cons_zero, List.getElem_cons_succ, Act.put, List.setIfInBounds_toArray, List.set_cons_zero, List.set_cons_succ])
      (refine wpAnyH_take (i := 21) (v := undef) rfl (by kernel_rfl) (by kernel_rfl) (by kernel_rfl) (fun _ _ _ h => h) (Or.inr ⟨by rfl, rfl⟩) (by assumption) ?_; simp only [List.getElem_toArray, List.getElem_cons_zero, List.getElem_cons_succ, Act.put, List.setIfInBounds_toArray, List.set_cons_zero, List.set_cons_succ])
      (refine wpAnyH_take (i := 22) (v := undef) rfl (by kernel_rfl) (by kernel_rfl) (by kernel_rfl) (fun _ _ _ h => h) (Or.inr ⟨by rfl, rfl⟩) (by assumption) ?_; simp only [List.getElem_toArray, List.getElem_cons_zero, List.getElem_cons_succ, Act.put, List.setIfInBounds_toArray, List.set_cons_zero, List.set_cons_succ])
      (refine wpAnyH_take (i := 23) (v := ?_) rfl (by kernel_rfl) (by kernel_rfl) (by kernel_rfl) (fun _ _ _ h => h) (Or.inl ⟨by rfl, ?_⟩) (by assumption) ?_; rotate_left; (focus (intro w hSw; (try dsimp only at hSw); go_split_ands; go_simp <;> with_reducible rfl)); simp only [List.getElem_toArray, List.getElem_cons_zero, List.getElem_cons_succ, Act.put, List.setIfInBounds_toArray, List.set_cons_zero, List.set_cons_succ])
      (refine wpAnyH_take (i := 24) (v := ?_) rfl (by kernel_rfl) (by kernel_rfl) (by kernel_rfl) (fun _ _ _ h => h) (Or.inl ⟨by rfl, ?_⟩) (by assumption) ?_; rotate_left; (focus (intro w hSw; (try dsimp only at hSw); go_split_ands; go_simp <;> with_reducible rfl)); simp only [List.getElem_toArray, List.getElem_cons_zero, List.getElem_cons_succ, Act.put, List.setIfInBounds_toArray, List.set_cons_zero, List.set_cons_succ])
      refine wpAnyH_done (by kernel_rfl) ?_ _
      go_wp2_with fail
      go_meet
      exact ⟨rfl, hbX2⟩
    · have q1 : (E == 0) = false := beq_eq_false_iff_ne.2 hE0
      have q2 : (E != 0) = true := bne_iff_ne.2 hE0
      have HA1 := Lib.hid (show ∀ W, Below w9.heap.size w9 W → Calls Tryd.prog 16 #[.agg #[.int .i64 v.gen, .int .i64 v.ep, .int .i64 v.pos, .int .i64 v.seq, .int .i64 v.last, .string v.lab, .slice v.HA v.hs.length v.hc], .agg #[.int .i64 0, .int .i64 0, .int .i64 0, .int .i64 0, .int .i64 0, .string ⟨#[]⟩, .slice none 0 0]] W fun e w' => e = .returned (.bool true) ∧ Below W.heap.size W w' from fun W hW => by
        have h9 := anchor_any v noAV W (HVI.out.next hW) (noAV_own W 0).inn (HW1.out v hvd).1 (HW1.out v hvd).2
        rwa [decide_eq_true (show v.d = noAV.d from hvd.trans hX1)] at h9)
      have HFS := Lib.hid (show ∀ W, Below w9.heap.size w9 W → W.cell? ⟨gv, 0, none⟩ = some (.int .i64 v.gen) ∧ W.cell? ⟨gv, 1, none⟩ = some (.int .i64 v.ep) ∧ W.cell? ⟨gv, 2, none⟩ = some (.int .i64 v.pos) ∧ W.cell? ⟨gv, 3, none⟩ = some (.int .i64 v.seq) ∧ W.cell? ⟨gv, 4, none⟩ = some (.int .i64 v.last) ∧ W.cell? ⟨gv, 5, none⟩ = some (.string v.lab) ∧ W.cell? ⟨gv, 6, none⟩ = some (.slice v.HA v.hs.length v.hc) ∧ W.cell? ⟨gn, 0, none⟩ = some (.int .i64 0) ∧ W.cell? ⟨gn, 1, none⟩ = some (.int .i64 0) ∧ W.cell? ⟨gn, 2, none⟩ = some (.int .i64 0) ∧ W.cell? ⟨gn, 3, none⟩ = some (.int .i64 0) ∧ W.cell? ⟨gn, 4, none⟩ = some (.int .i64 0) ∧ W.cell? ⟨gn, 5, none⟩ = some (.string ⟨#[]⟩) ∧ W.cell? ⟨gn, 6, none⟩ = some (.slice none 0 0) ∧ Below w9.heap.size w9 W from fun W hW => ⟨(HVV.out W hW).V.c0, (HVV.out W hW).V.c1, (HVV.out W hW).V.c2, (HVV.out W hW).V.c3, (HVV.out W hW).V.c4, (HVV.out W hW).V.c5, (HVV.out W hW).V.c6, (HVV.out W hW).N.c0, (HVV.out W hW).N.c1, (HVV.out W hW).N.c2, (HVV.out W hW).N.c3, (HVV.out W hW).N.c4, (HVV.out W hW).N.c5, (HVV.out W hW).N.c6, hW⟩)
      clear hX1 hE0
      refine wp_region_held_drew (S := fun W => W.cell? ⟨gv, 0, none⟩ = some (.int .i64 v.gen) ∧ W.cell? ⟨gv, 1, none⟩ = some (.int .i64 v.ep) ∧ W.cell? ⟨gv, 2, none⟩ = some (.int .i64 v.pos) ∧ W.cell? ⟨gv, 3, none⟩ = some (.int .i64 v.seq) ∧ W.cell? ⟨gv, 4, none⟩ = some (.int .i64 v.last) ∧ W.cell? ⟨gv, 5, none⟩ = some (.string v.lab) ∧ W.cell? ⟨gv, 6, none⟩ = some (.slice v.HA v.hs.length v.hc) ∧ W.cell? ⟨gn, 0, none⟩ = some (.int .i64 0) ∧ W.cell? ⟨gn, 1, none⟩ = some (.int .i64 0) ∧ W.cell? ⟨gn, 2, none⟩ = some (.int .i64 0) ∧ W.cell? ⟨gn, 3, none⟩ = some (.int .i64 0) ∧ W.cell? ⟨gn, 4, none⟩ = some (.int .i64 0) ∧ W.cell? ⟨gn, 5, none⟩ = some (.string ⟨#[]⟩) ∧ W.cell? ⟨gn, 6, none⟩ = some (.slice none 0 0) ∧ Below w9.heap.size w9 W) (by kernel_rfl) (HFS.out _ (below_dr (Below.refl w9.heap.size w9))) (fun hHeld => ?_)
      (refine wpAnyH_take (i := 0) (v := ?_) rfl (by kernel_rfl) (by kernel_rfl) (by kernel_rfl) (fun _ _ _ h => h) (Or.inl ⟨by rfl, ?_⟩) (by assumption) ?_; rotate_left; (focus (intro w hSw; (try dsimp only at hSw); go_split_ands; go_simp <;> with_reducible rfl)); simp only [List.getElem_toArray, List.getElem_cons_zero, Act.put, List.setIfInBounds_toArray, List.set_cons_zero, List.set_cons_succ])
      (refine wpAnyH_take (i := 1) (v := ?_) rfl (by kernel_rfl) (by kernel_rfl) (by kernel_rfl) (fun _ _ _ h => h) (Or.inl ⟨by rfl, ?_⟩) (by assumption) ?_; rotate_left; (focus (intro w hSw; (try dsimp only at hSw); go_split_ands; go_simp <;> with_reducible rfl)); simp only [List.getElem_toArray, List.getElem_cons_zero, List.getElem_cons_succ, Act.put, List.setIfInBounds_toArray, List.set_cons_zero, List.set_cons_succ])
      (refine wpAnyH_take (i := 2) (v := ?_) rfl (by kernel_rfl) (by kernel_rfl) (by kernel_rfl) (fun _ _ _ h => h) (Or.inl ⟨by rfl, ?_⟩) (by assumption) ?_; rotate_left; (focus (intro w hSw; (try dsimp only at hSw); go_split_ands; go_simp <;> with_reducible rfl)); simp only [List.getElem_toArray, List.getElem_cons_zero, List.getElem_cons_succ, Act.put, List.setIfInBounds_toArray, List.set_cons_zero, List.set_cons_succ])
      (refine wpAnyH_take (i := 3) (v := ?_) rfl (by kernel_rfl) (by kernel_rfl) (by kernel_rfl) (fun _ _ _ h => h) (Or.inl ⟨by rfl, ?_⟩) (by assumption) ?_; rotate_left; (focus (intro w hSw; (try dsimp only at hSw); go_split_ands; go_simp <;> with_reducible rfl)); simp only [List.getElem_toArray, List.getElem_cons_zero, List.getElem_cons_succ, Act.put, List.setIfInBounds_toArray, List.set_cons_zero, List.set_cons_succ])
      (refine wpAnyH_take (i := 4) (v := ?_) rfl (by kernel_rfl) (by kernel_rfl) (by kernel_rfl) (fun _ _ _ h => h) (Or.inl ⟨by rfl, ?_⟩) (by assumption) ?_; rotate_left; (focus (intro w hSw; (try dsimp only at hSw); go_split_ands; go_simp <;> with_reducible rfl)); simp only [List.getElem_toArray, List.getElem_cons_zero, List.getElem_cons_succ, Act.put, List.setIfInBounds_toArray, List.set_cons_zero, List.set_cons_succ])
      (refine wpAnyH_take (i := 5) (v := ?_) rfl (by kernel_rfl) (by kernel_rfl) (by kernel_rfl) (fun _ _ _ h => h) (Or.inl ⟨by rfl, ?_⟩) (by assumption) ?_; rotate_left; (focus (intro w hSw; (try dsimp only at hSw); go_split_ands; go_simp <;> with_reducible rfl)); simp only [List.getElem_toArray, List.getElem_cons_zero, List.getElem_cons_succ, Act.put, List.setIfInBounds_toArray, List.set_cons_zero, List.set_cons_succ])
      (refine wpAnyH_take (i := 6) (v := ?_) rfl (by kernel_rfl) (by kernel_rfl) (by kernel_rfl) (fun _ _ _ h => h) (Or.inl ⟨by rfl, ?_⟩) (by assumption) ?_; rotate_left; (focus (intro w hSw; (try dsimp only at hSw); go_split_ands; go_simp <;> with_reducible rfl)); simp only [List.getElem_toArray, List.getElem_cons_zero, List.getElem_cons_succ, Act.put, List.setIfInBounds_toArray, List.set_cons_zero, List.set_cons_succ])
      (refine wpAnyH_take (i := 7) (v := undef) rfl (by kernel_rfl) (by kernel_rfl) (by kernel_rfl) (fun _ _ _ h => h) (Or.inr ⟨by rfl, rfl⟩) (by assumption) ?_; simp only [List.getElem_toArray, List.getElem_cons_zero, List.getElem_cons_succ, Act.put, List.setIfInBounds_toArray, List.set_cons_zero, List.set_cons_succ])
      (refine wpAnyH_take (i := 8) (v := undef) rfl (by kernel_rfl) (by kernel_rfl) (by kernel_rfl) (fun _ _ _ h => h) (Or.inr ⟨by rfl, rfl⟩) (by assumption) ?_; simp only [List.getElem_toArray, List.getElem_cons_zero, List.getElem_cons_succ, Act.put, List.setIfInBounds_toArray, List.set_cons_zero, List.set_cons_succ])
      (refine wpAnyH_take (i := 9) (v := undef) rfl (by kernel_rfl) (by kernel_rfl) (by kernel_rfl) (fun _ _ _ h => h) (Or.inr ⟨by rfl, rfl⟩) (by assumption) ?_; simp only [List.getElem_toArray, List.getElem_cons_zero, List.getElem_cons_succ, Act.put, List.setIfInBounds_toArray, List.set_cons_zero, List.set_cons_succ])
      (refine wpAnyH_take (i := 10) (v := undef) rfl (by kernel_rfl) (by kernel_rfl) (by kernel_rfl) (fun _ _ _ h => h) (Or.inr ⟨by rfl, rfl⟩) (by assumption) ?_; simp only [List.getElem_toArray, List.getElem_cons_zero, List.getElem_cons_succ, Act.put, List.setIfInBounds_toArray, List.set_cons_zero, List.set_cons_succ])
      (refine wpAnyH_take (i := 11) (v := undef) rfl (by kernel_rfl) (by kernel_rfl) (by kernel_rfl) (fun _ _ _ h => h) (Or.inr ⟨by rfl, rfl⟩) (by assumption) ?_; simp only [List.getElem_toArray, List.getElem_cons_zero, List.getElem_cons_succ, Act.put, List.setIfInBounds_toArray, List.set_cons_zero, List.set_cons_succ])
      (refine wpAnyH_take (i := 12) (v := undef) rfl (by kernel_rfl) (by kernel_rfl) (by kernel_rfl) (fun _ _ _ h => h) (Or.inr ⟨by rfl, rfl⟩) (by assumption) ?_; simp only [List.getElem_toArray, List.getElem_cons_zero, List.getElem_cons_succ, Act.put, List.setIfInBounds_toArray, List.set_cons_zero, List.set_cons_succ])
      (refine wpAnyH_take (i := 13) (v := ?_) rfl (by kernel_rfl) (by kernel_rfl) (by kernel_rfl) (fun _ _ _ h => h) (Or.inl ⟨by rfl, ?_⟩) (by assumption) ?_; rotate_left; (focus (intro w hSw; (try dsimp only at hSw); go_split_ands; go_simp <;> with_reducible rfl)); simp only [List.getElem_toArray, List.getElem_cons_zero, List.getElem_cons_succ, Act.put, List.setIfInBounds_toArray, List.set_cons_zero, List.set_cons_succ])
      (refine wpAnyH_take (i := 14) (v := ?_) rfl (by kernel_rfl) (by kernel_rfl) (by kernel_rfl) (fun _ _ _ h => h) (Or.inl ⟨by rfl, ?_⟩) (by assumption) ?_; rotate_left; (focus (intro w hSw; (try dsimp only at hSw); go_split_ands; go_simp <;> with_reducible rfl)); simp only [List.getElem_toArray, List.getElem_cons_zero, List.getElem_cons_succ, Act.put, List.setIfInBounds_toArray, List.set_cons_zero, List.set_cons_succ])
      (refine wpAnyH_take (i := 15) (v := ?_) rfl (by kernel_rfl) (by kernel_rfl) (by kernel_rfl) (fun _ _ _ h => h) (Or.inl ⟨by rfl, ?_⟩) (by assumption) ?_; rotate_left; (focus (intro w hSw; (try dsimp only at hSw); go_split_ands; go_simp <;> with_reducible rfl)); simp only [List.getElem_toArray, List.getElem_cons_zero, List.getElem_cons_succ, Act.put, List.setIfInBounds_toArray, List.set_cons_zero, List.set_cons_succ])
      (refine wpAnyH_take (i := 16) (v := ?_) rfl (by kernel_rfl) (by kernel_rfl) (by kernel_rfl) (fun _ _ _ h => h) (Or.inl ⟨by rfl, ?_⟩) (by assumption) ?_; rotate_left; (focus (intro w hSw; (try dsimp only at hSw); go_split_ands; go_simp <;> with_reducible rfl)); simp only [List.getElem_toArray, List.getElem_cons_zero, List.getElem_cons_succ, Act.put, List.setIfInBounds_toArray, List.set_cons_zero, List.set_cons_succ])
      (refine wpAnyH_take (i := 17) (v := ?_) rfl (by kernel_rfl) (by kernel_rfl) (by kernel_rfl) (fun _ _ _ h => h) (Or.inl ⟨by rfl, ?_⟩) (by assumption) ?_; rotate_left; (focus (intro w hSw; (try dsimp only at hSw); go_split_ands; go_simp <;> with_reducible rfl)); simp only [List.getElem_toArray, List.getElem_cons_zero, List.getElem_cons_succ, Act.put, List.setIfInBounds_toArray, List.set_cons_zero, List.set_cons_succ])
      (refine wpAnyH_take (i := 18) (v := ?_) rfl (by kernel_rfl) (by kernel_rfl) (by kernel_rfl) (fun _ _ _ h => h) (Or.inl ⟨by rfl, ?_⟩) (by assumption) ?_; rotate_left; (focus (intro w hSw; (try dsimp only at hSw); go_split_ands; go_simp <;> with_reducible rfl)); simp only [List.getElem_toArray, List.getElem_cons_zero, List.getElem_cons_succ, Act.put, List.setIfInBounds_toArray, List.set_cons_zero, List.set_cons_succ])
      (refine wpAnyH_take (i := 19) (v := ?_) rfl (by kernel_rfl) (by kernel_rfl) (by kernel_rfl) (fun _ _ _ h => h) (Or.inl ⟨by rfl, ?_⟩) (by assumption) ?_; rotate_left; (focus (intro w hSw; (try dsimp only at hSw); go_split_ands; go_simp <;> with_reducible rfl)); simp only [List.getElem_toArray, List.getElem_cons_zero, List.getElem_cons_succ, Act.put, List.setIfInBounds_toArray, List.set_cons_zero, List.set_cons_succ])
      (refine wpAnyH_take (i := 20) (v := ?_) rfl (by kernel_rfl) (by kernel_rfl) (by kernel_rfl) (fun _ _ _ h => h) (Or.inl ⟨by rfl, ?_⟩) (by assumption) ?_; rotate_left; (focus (intro w hSw; (try dsimp only at hSw); go_split_ands; go_simp <;> with_reducible rfl)); simp only [List.getElem_toArray, List.getElem_cons_zero, List.getElem_cons_succ, Act.put, List.setIfInBounds_toArray, List.set_cons_zero, List.set_cons_succ])
      refine wpAnyH_ready (rs := [21]) (by kernel_rfl) (by simp) ?_
      refine AllReadyH.cons rfl (fun K hK => ?_) AllReadyH.nil
      go_simp
      (with_reducible refine (HA1.out _ (below_dr (Below.refl w9.heap.size w9))).mono ?_)
      rintro e wB ⟨rfl, hbB⟩
      have hbX : Below w9.heap.size w9 wB := bt (below_dr (Below.refl w9.heap.size w9)) hbB
      refine hK.out _ _ (HFS.out _ hbX) (fun hS2 => ?_)
      clear hK K
      try simp only [Act.put, List.setIfInBounds_toArray, List.set_cons_zero, List.set_cons_succ]
      (refine wpAnyH_take (i := 22) (v := ?_) rfl (by kernel_rfl) (by kernel_rfl) (by kernel_rfl) (fun _ _ _ h => h) (Or.inl ⟨by rfl, ?_⟩) (by assumption) ?_; rotate_left; (focus (intro w hSw; (try dsimp only at hSw); go_split_ands; go_simp <;> with_reducible rfl)); simp only [List.getElem_toArray, List.getElem_cons_zero, List.getElem_cons_succ, Act.put, List.setIfInBounds_toArray, List.set_cons_zero, List.set_cons_succ])
      (refine wpAnyH_take (i := 23) (v := ?_) rfl (by kernel_rfl) (by kernel_rfl) (by kernel_rfl) (fun _ _ _ h => h) (Or.inl ⟨by rfl, ?_⟩) (by assumption) ?_; rotate_left; (focus (intro w hSw; (try dsimp only at hSw); go_split_ands; go_simp <;> with_reducible rfl)); simp only [List.getElem_toArray, List.getElem_cons_zero, List.getElem_cons_succ, Act.put, List.setIfInBounds_toArray, List.set_cons_zero, List.set_cons_succ])
      (refine wpAnyH_take (i := 24) (v := ?_) rfl (by kernel_rfl) (by kernel_rfl) (by kernel_rfl) (fun _ _ _ h => h) (Or.inl ⟨by rfl, ?_⟩) (by assumption) ?_; rotate_left; (focus (intro w hSw; (try dsimp only at hSw); go_split_ands; go_simp <;> with_reducible rfl)); simp only [List.getElem_toArray, List.getElem_cons_zero, List.getElem_cons_succ, Act.put, List.setIfInBounds_toArray, List.set_cons_zero, List.set_cons_succ])
      refine wpAnyH_done (by kernel_rfl) ?_ _
      go_wp2_with fail
      go_meet
      exact ⟨rfl, hbX⟩
  case rest =>
    obtain ⟨w10, rfl⟩ : ∃ x, x = wc := ⟨wc, rfl⟩
    obtain ⟨rfl, hbc⟩ := hcut
    have VV := HVV.out w10 hbc
    replace ln : gn < w10.heap.size := Nat.lt_of_lt_of_le ln hbc.size
    replace HU := Lib.hid (HU.out.next hbc)
    replace HTI := Lib.hid (HTI.out.next hbc)
    have hY := HY.out.next hbc
    replace hb0 := bt hb0 hbc
    clear HVV HY HVI HW1 hb9 hbc HX1
    obtain ⟨g0, g1, g2, g3, g4⟩ := id VV.G
    go_upto_region 14 with (go_at_call 20; (with_reducible refine (HRA.out _ hb0).mono ?_); rintro e wA ⟨⟨q, heq, hqd, hqo⟩, hbq⟩; rw [AV.v] at heq; subst heq; replace VV := VV.keep hbq l1 lu lv lt ln; replace ln := Nat.lt_of_lt_of_le ln hbq.size; clear g0 g1 g2 g3 g4; obtain ⟨g0, g1, g2, g3, g4⟩ := id VV.G; replace hb0 := bt hb0 hbq; replace HU := Lib.hid (HU.out.next hbq); replace HTI := Lib.hid (HTI.out.next hbq); replace hY := hY.next hbq; clear hbq)
    have hqin := AV.Own.inn hqo
    have hxA := bl wA (.cells #[.int .i64 q.gen, .int .i64 q.ep, .int .i64 q.pos, .int .i64 q.seq, .int .i64 q.last, .string q.lab, .slice q.HA q.hs.length q.hc] 26)
    have FR := ac_new wA q
    have lr : wA.heap.size < (wA.alloc (.cells #[.int .i64 q.gen, .int .i64 q.ep, .int .i64 q.pos, .int .i64 q.seq, .int .i64 q.last, .string q.lab, .slice q.HA q.hs.length q.hc] 26)).heap.size := by simp
    replace VV := VV.keep hxA l1 lu lv lt ln
    replace hb0 := bt hb0 hxA
    replace HU := Lib.hid (HU.out.next hxA)
    replace HTI := Lib.hid (HTI.out.next hxA)
    have HQI := Lib.hid (hqin.next hxA)
    replace hY := hY.next hxA
    obtain ⟨gr, hgr⟩ : ∃ g, g = wA.heap.size := ⟨_, rfl⟩
    rw [← hgr] at FR lr ln ⊢
    clear hgr hxA hqin hqo g0 g1 g2 g3 g4
    generalize wA.alloc (.cells #[.int .i64 q.gen, .int .i64 q.ep, .int .i64 q.pos, .int .i64 q.seq, .int .i64 q.last, .string q.lab, .slice q.HA q.hs.length q.hc] 26) = w11 at *
    have HY := Lib.hid hY
    have hb11 := Below.refl w11.heap.size w11
    have HAT := Lib.hid (show ∀ W, Below w11.heap.size w11 W → Calls Tryd.prog 16 #[.agg #[.int .i64 t.gen, .int .i64 t.ep, .int .i64 t.pos, .int .i64 t.seq, .int .i64 t.last, .string t.lab, .slice t.HA t.hs.length t.hc], .agg #[.int .i64 q.gen, .int .i64 q.ep, .int .i64 q.pos, .int .i64 q.seq, .int .i64 q.last, .string q.lab, .slice q.HA q.hs.length q.hc]] W fun e w' => e = .returned (.bool true) ∧ Below W.heap.size W w' from fun W hW => by
      have h9 := anchor_any t q W (HTI.out.next hW) (HQI.out.next hW) (HW2.out t htd).1 (HW2.out t htd).2
      rwa [decide_eq_true (show t.d = q.d from htd.trans hqd.symm)] at h9)
    have HVR := Lib.hid (show ∀ W, Below w11.heap.size w11 W → Vars W w.heap.size z d s l a x u v t gu gv gt gn from fun W hW => VV.keep hW l1 lu lv lt (by omega))
    clear hY hqd htd
    go_cut [140] from 123 to 140 (fun r wx => r = .bool false ∧ Below w11.heap.size w11 wx)
    case first =>
      obtain ⟨k0, k1, k2, k3, k4, k5, k6⟩ := id VV.T
      obtain ⟨r0, r1, r2, r3, r4, r5, r6⟩ := id FR
      rcases HX2.out with ⟨rfl, rfl⟩ | ⟨rfl, rfl⟩
      · go_wp2_with (go_at_call 16; (with_reducible refine (HAT.out _ hb11).mono ?_); rintro e wq ⟨rfl, hbq⟩)
        go_meet
        exact ⟨rfl, hbq⟩
      · go_wp2_with (go_at_call 16; (with_reducible refine (HAT.out _ hb11).mono ?_); rintro e wq ⟨rfl, hbq⟩)
        go_meet
        exact ⟨rfl, hbq⟩
    case rest =>
      obtain ⟨w12, rfl⟩ : ∃ x, x = wc := ⟨wc, rfl⟩
      obtain ⟨rfl, hbc⟩ := hcut
      replace VV := HVR.out w12 hbc
      replace ln : gn < w12.heap.size := by have := hbc.size; omega
      replace HU := Lib.hid (HU.out.next hbc)
      have hY := HY.out.next hbc
      replace hb0 := bt hb0 hbc
      have hb8 := Below.refl w12.heap.size w12
      clear HVR HY HTI HQI HAT HX2 HW2 hb11 hbc FR
      have HXI := Lib.hid (show ∀ W, Below w12.heap.size w12 W → x.In W W.heap.size from fun W hW => HX.out.next (bt hb0 hW))
      have HRG := Lib.hid (show ∀ W, Below w12.heap.size w12 W → Calls Tryd.prog 21 #[.agg #[.int .i64 z, .int .i64 d, .int .i64 s, .int .i64 l, .int .i64 a], x.v] W fun e w' => e = .returned (.bool gd) ∧ Below W.heap.size W w' from fun W hW =>
        right_p z d s l a gd x W HO.out (HXI.out W hW) (HS.out x rfl).1 (HS.out x rfl).2 (by omega) HGD.out)
      have hul : u.lab = x.lab := congrArg Anc.lab hud
      have HCK := Lib.hid (show ∀ W, Below w12.heap.size w12 W → Calls Tryd.prog 15 #[.agg #[.int .i64 z, .int .i64 d, .int .i64 s, .int .i64 l, .int .i64 a], u.v] W fun e w' => e = .returned (.int .i64 (errC gd)) ∧ Below W.heap.size W w' from fun W hW =>
        check_p hV z d s l a gd u W (tn HT.out (bt hb0 hW)) HO.out (HU.out.next hW) (by rw [hul]; omega) (by rw [hud]; exact HGD.out))
      have HAU := Lib.hid (show ∀ W, Below w12.heap.size w12 W → Calls Tryd.prog 16 #[u.v, x.v] W fun e w' => e = .returned (.bool true) ∧ Below W.heap.size W w' from fun W hW => by
        have h9 := anchor_any u x W (HU.out.next hW) (HXI.out W hW) (HS.out u hud).1 (HS.out u hud).2
        rwa [decide_eq_true hud] at h9)
      unfold AV.v at HRG HCK HAU
      clear hul
      rcases HFF.out with ⟨rfl, rfl, hL⟩ | ⟨rfl, rfl, rfl⟩
      · have hg : Good z d s l x.d := HGD.out.1 rfl
        have HAB := Lib.hid (show ∀ W, Below w12.heap.size w12 W → Calls Tryd.prog 23 #[x.v] W fun e w' => One W.heap.size L e w' ∧ Below W.heap.size W w' from fun W hW => by
          rw [hL]
          exact rbytes_any z d s l a x W HO.out (HXI.out W hW) hg)
        have hL2 : L.length ≤ 1048576 := by
          have h1 := encA_len (good_b HO.out hg)
          have h2 : x.lab.size ≤ 24 := by have := lab_len hg.2.2.2.2.2.2.1; rwa [size_list] at this
          have h3 := Nat.mul_le_mul (show z.toNat ≤ 4 by have := HO.out.1; omega) (show d.toNat + 6 ≤ 10 by have := HO.out.2.1; omega)
          have h4 : (encA x.d).length = 18 + x.lab.size + z.toNat * (d.toNat + 6) := h1
          rw [hL]
          omega
        have HKB := Lib.hid (show ∀ (W : World) (B : Option Addr) (bc : Nat), Below w12.heap.size w12 W → Sl W W.heap.size B L → Calls Tryd.prog 22 #[.slice Y Q yc, .slice B Q bc] W fun e w' => e = .returned (.bool true) ∧ Below W.heap.size W w' from fun W B bc hW hB => by
          have h9 := keep_any Y B yc bc _ _ L L W (hY.next hW) hB (Nat.le_refl _) (Nat.le_refl _) hL2
          rwa [decide_eq_true rfl, HQ.out] at h9)
        unfold AV.v at HAB
        clear hg hL hL2 hY hud
        obtain ⟨g0, g1, g2, g3, g4⟩ := id VV.G; obtain ⟨c0, c1, c2, c3, c4, c5, c6⟩ := id VV.X; obtain ⟨d0, d1, d2, d3, d4, d5, d6⟩ := id VV.U; obtain ⟨e0, e1, e2, e3, e4, e5, e6⟩ := id VV.V; obtain ⟨k0, k1, k2, k3, k4, k5, k6⟩ := id VV.T; obtain ⟨n0, n1, n2, n3, n4, n5, n6⟩ := zero_at VV.N
        go_wp2_with (first
          | (go_at_call 21; (with_reducible refine (HRG.out _ hb8).mono ?_); rintro e wq ⟨rfl, hbq⟩; replace VV := VV.keep hbq l1 lu lv lt ln; replace ln := Nat.lt_of_lt_of_le ln hbq.size; clear g0 g1 g2 g3 g4 c0 c1 c2 c3 c4 c5 c6 d0 d1 d2 d3 d4 d5 d6 e0 e1 e2 e3 e4 e5 e6 k0 k1 k2 k3 k4 k5 k6 n0 n1 n2 n3 n4 n5 n6; obtain ⟨g0, g1, g2, g3, g4⟩ := id VV.G; obtain ⟨c0, c1, c2, c3, c4, c5, c6⟩ := id VV.X; obtain ⟨d0, d1, d2, d3, d4, d5, d6⟩ := id VV.U; obtain ⟨e0, e1, e2, e3, e4, e5, e6⟩ := id VV.V; obtain ⟨k0, k1, k2, k3, k4, k5, k6⟩ := id VV.T; obtain ⟨n0, n1, n2, n3, n4, n5, n6⟩ := zero_at VV.N; replace hb0 := bt hb0 hbq; replace hb8 := bt hb8 hbq; clear hbq)
          | (go_at_call 15; (with_reducible refine (HCK.out _ hb8).mono ?_); rintro e wq ⟨rfl, hbq⟩; replace VV := VV.keep hbq l1 lu lv lt ln; replace ln := Nat.lt_of_lt_of_le ln hbq.size; clear g0 g1 g2 g3 g4 c0 c1 c2 c3 c4 c5 c6 d0 d1 d2 d3 d4 d5 d6 e0 e1 e2 e3 e4 e5 e6 k0 k1 k2 k3 k4 k5 k6 n0 n1 n2 n3 n4 n5 n6; obtain ⟨g0, g1, g2, g3, g4⟩ := id VV.G; obtain ⟨c0, c1, c2, c3, c4, c5, c6⟩ := id VV.X; obtain ⟨d0, d1, d2, d3, d4, d5, d6⟩ := id VV.U; obtain ⟨e0, e1, e2, e3, e4, e5, e6⟩ := id VV.V; obtain ⟨k0, k1, k2, k3, k4, k5, k6⟩ := id VV.T; obtain ⟨n0, n1, n2, n3, n4, n5, n6⟩ := zero_at VV.N; replace hb0 := bt hb0 hbq; replace hb8 := bt hb8 hbq; clear hbq)
          | (go_at_call 23; (with_reducible refine (HAB.out _ hb8).mono ?_); rintro e wE ⟨⟨ve, rfl, hoe⟩, hbq⟩; obtain ⟨Be, be, hve, -, -, hse, -⟩ := hoe.form; rw [HQ.out] at hve; subst hve; replace VV := VV.keep hbq l1 lu lv lt ln; replace ln := Nat.lt_of_lt_of_le ln hbq.size; clear g0 g1 g2 g3 g4 c0 c1 c2 c3 c4 c5 c6 d0 d1 d2 d3 d4 d5 d6 e0 e1 e2 e3 e4 e5 e6 k0 k1 k2 k3 k4 k5 k6 n0 n1 n2 n3 n4 n5 n6; obtain ⟨g0, g1, g2, g3, g4⟩ := id VV.G; obtain ⟨c0, c1, c2, c3, c4, c5, c6⟩ := id VV.X; obtain ⟨d0, d1, d2, d3, d4, d5, d6⟩ := id VV.U; obtain ⟨e0, e1, e2, e3, e4, e5, e6⟩ := id VV.V; obtain ⟨k0, k1, k2, k3, k4, k5, k6⟩ := id VV.T; obtain ⟨n0, n1, n2, n3, n4, n5, n6⟩ := zero_at VV.N; replace hb0 := bt hb0 hbq; replace hb8 := bt hb8 hbq; clear hbq)
          | (go_at_call 22; (with_reducible refine (HKB.out _ _ _ hb8 hse).mono ?_); rintro e wq ⟨rfl, hbq⟩; replace VV := VV.keep hbq l1 lu lv lt ln; replace ln := Nat.lt_of_lt_of_le ln hbq.size; clear g0 g1 g2 g3 g4 c0 c1 c2 c3 c4 c5 c6 d0 d1 d2 d3 d4 d5 d6 e0 e1 e2 e3 e4 e5 e6 k0 k1 k2 k3 k4 k5 k6 n0 n1 n2 n3 n4 n5 n6; obtain ⟨g0, g1, g2, g3, g4⟩ := id VV.G; obtain ⟨c0, c1, c2, c3, c4, c5, c6⟩ := id VV.X; obtain ⟨d0, d1, d2, d3, d4, d5, d6⟩ := id VV.U; obtain ⟨e0, e1, e2, e3, e4, e5, e6⟩ := id VV.V; obtain ⟨k0, k1, k2, k3, k4, k5, k6⟩ := id VV.T; obtain ⟨n0, n1, n2, n3, n4, n5, n6⟩ := zero_at VV.N; replace hb0 := bt hb0 hbq; replace hb8 := bt hb8 hbq; clear hbq)
          | (go_at_call 16; (with_reducible refine (HAU.out _ hb8).mono ?_); rintro e wq ⟨rfl, hbq⟩; replace VV := VV.keep hbq l1 lu lv lt ln; replace ln := Nat.lt_of_lt_of_le ln hbq.size; clear g0 g1 g2 g3 g4 c0 c1 c2 c3 c4 c5 c6 d0 d1 d2 d3 d4 d5 d6 e0 e1 e2 e3 e4 e5 e6 k0 k1 k2 k3 k4 k5 k6 n0 n1 n2 n3 n4 n5 n6; obtain ⟨g0, g1, g2, g3, g4⟩ := id VV.G; obtain ⟨c0, c1, c2, c3, c4, c5, c6⟩ := id VV.X; obtain ⟨d0, d1, d2, d3, d4, d5, d6⟩ := id VV.U; obtain ⟨e0, e1, e2, e3, e4, e5, e6⟩ := id VV.V; obtain ⟨k0, k1, k2, k3, k4, k5, k6⟩ := id VV.T; obtain ⟨n0, n1, n2, n3, n4, n5, n6⟩ := zero_at VV.N; replace hb0 := bt hb0 hbq; replace hb8 := bt hb8 hbq; clear hbq)
          | (go_at_call 17; (with_reducible refine (wk_anc hV hC _ (tn HT.out hb0)).mono ?_); rintro e wz ⟨rfl, hbz⟩))
        go_ret
        exact ⟨rfl, bt hb0 hbz⟩
      · clear hY hud
        obtain ⟨g0, g1, g2, g3, g4⟩ := id VV.G; obtain ⟨c0, c1, c2, c3, c4, c5, c6⟩ := id VV.X; obtain ⟨d0, d1, d2, d3, d4, d5, d6⟩ := id VV.U; obtain ⟨e0, e1, e2, e3, e4, e5, e6⟩ := id VV.V; obtain ⟨k0, k1, k2, k3, k4, k5, k6⟩ := id VV.T; obtain ⟨n0, n1, n2, n3, n4, n5, n6⟩ := zero_at VV.N
        go_wp2_with (first
          | (go_at_call 21; (with_reducible refine (HRG.out _ hb8).mono ?_); rintro e wq ⟨rfl, hbq⟩; replace VV := VV.keep hbq l1 lu lv lt ln; replace ln := Nat.lt_of_lt_of_le ln hbq.size; clear g0 g1 g2 g3 g4 c0 c1 c2 c3 c4 c5 c6 d0 d1 d2 d3 d4 d5 d6 e0 e1 e2 e3 e4 e5 e6 k0 k1 k2 k3 k4 k5 k6 n0 n1 n2 n3 n4 n5 n6; obtain ⟨g0, g1, g2, g3, g4⟩ := id VV.G; obtain ⟨c0, c1, c2, c3, c4, c5, c6⟩ := id VV.X; obtain ⟨d0, d1, d2, d3, d4, d5, d6⟩ := id VV.U; obtain ⟨e0, e1, e2, e3, e4, e5, e6⟩ := id VV.V; obtain ⟨k0, k1, k2, k3, k4, k5, k6⟩ := id VV.T; obtain ⟨n0, n1, n2, n3, n4, n5, n6⟩ := zero_at VV.N; replace hb0 := bt hb0 hbq; replace hb8 := bt hb8 hbq; clear hbq)
          | (go_at_call 15; (with_reducible refine (HCK.out _ hb8).mono ?_); rintro e wq ⟨rfl, hbq⟩; replace VV := VV.keep hbq l1 lu lv lt ln; replace ln := Nat.lt_of_lt_of_le ln hbq.size; clear g0 g1 g2 g3 g4 c0 c1 c2 c3 c4 c5 c6 d0 d1 d2 d3 d4 d5 d6 e0 e1 e2 e3 e4 e5 e6 k0 k1 k2 k3 k4 k5 k6 n0 n1 n2 n3 n4 n5 n6; obtain ⟨g0, g1, g2, g3, g4⟩ := id VV.G; obtain ⟨c0, c1, c2, c3, c4, c5, c6⟩ := id VV.X; obtain ⟨d0, d1, d2, d3, d4, d5, d6⟩ := id VV.U; obtain ⟨e0, e1, e2, e3, e4, e5, e6⟩ := id VV.V; obtain ⟨k0, k1, k2, k3, k4, k5, k6⟩ := id VV.T; obtain ⟨n0, n1, n2, n3, n4, n5, n6⟩ := zero_at VV.N; replace hb0 := bt hb0 hbq; replace hb8 := bt hb8 hbq; clear hbq)
          | (go_at_call 16; (with_reducible refine (HAU.out _ hb8).mono ?_); rintro e wq ⟨rfl, hbq⟩; replace VV := VV.keep hbq l1 lu lv lt ln; replace ln := Nat.lt_of_lt_of_le ln hbq.size; clear g0 g1 g2 g3 g4 c0 c1 c2 c3 c4 c5 c6 d0 d1 d2 d3 d4 d5 d6 e0 e1 e2 e3 e4 e5 e6 k0 k1 k2 k3 k4 k5 k6 n0 n1 n2 n3 n4 n5 n6; obtain ⟨g0, g1, g2, g3, g4⟩ := id VV.G; obtain ⟨c0, c1, c2, c3, c4, c5, c6⟩ := id VV.X; obtain ⟨d0, d1, d2, d3, d4, d5, d6⟩ := id VV.U; obtain ⟨e0, e1, e2, e3, e4, e5, e6⟩ := id VV.V; obtain ⟨k0, k1, k2, k3, k4, k5, k6⟩ := id VV.T; obtain ⟨n0, n1, n2, n3, n4, n5, n6⟩ := zero_at VV.N; replace hb0 := bt hb0 hbq; replace hb8 := bt hb8 hbq; clear hbq)
          | (go_at_call 17; (with_reducible refine (wk_anc hV hC _ (tn HT.out hb0)).mono ?_); rintro e wz ⟨rfl, hbz⟩))
        go_ret
        exact ⟨rfl, bt hb0 hbz⟩
end Go.Proofs.YtkpbfhjpmhgmoaaDoor.anc
