/-
  The law AnchorExact, anchors and bytes that are played. Conditions: 'ValidOk', 'CloneOk', 'Tabs'.
-/
import Derived.Test.YtkpbfhjpmhgmoaaDoorAnLH
namespace Go.Proofs.YtkpbfhjpmhgmoaaDoor.anc
open Go.RowKit Go.Lib
open Go.Proofs.YtkpbfhjpmhgmoaaDoor.gmt (Ok five_new rgeo_at)
open Go.Proofs.YtkpbfhjpmhgmoaaDoor.lbl (encL readL labE lab_len ValidOk CloneOk Tabs ref_label)

/-- What anchor.Bytes answers, right or wrong. -/
def BytQ (f : Int) (Q : Nat) (L : List UInt8) (e : Ending) (w' : World) : Prop := ∃ (Y : Option Addr) (yc : Nat), e = .returned (.tuple #[.slice Y Q yc, .int .i64 f]) ∧ Sl w' w'.heap.size Y L
/-- Few homes, few places. -/
def Few (X : Anc) : Prop := ∀ v : AV, v.d = X → v.hs.length ≤ 1048576 ∧ HShort 1048576 v.hs
theorem few_good {z d s l a : Int} {X : Anc} (ho : Ok z d s l a) (h : Good z d s l X) : Few X := fun v hv => by
  obtain ⟨o1, o2, -⟩ := ho
  have h1 := h.2.2.2.2.2.2.2.1
  have h2 := h.2.2.2.2.2.2.2.2
  rw [← hv] at h1 h2
  have e : v.d.hs.length = v.hs.length := hds_length v.hs
  refine ⟨by omega, fun r hr => ?_⟩
  have h3 : (r.ps.length : Int) = d + 1 := (h2 r.d (List.mem_map_of_mem hr)).1
  omega
theorem few_none : Few noAnc := fun v hv => by
  have e : hds v.hs = [] := congrArg Anc.hs hv
  have e2 : v.hs = [] := List.map_eq_nil_iff.1 e
  rw [e2]
  exact ⟨Nat.zero_le _, fun r hr => by cases hr⟩
/-- The six variables of the law. -/
structure Vars (W : World) (gz : Nat) (z d s l a : Int) (x u v t : AV) (g1 g2 g3 g4 : Nat) : Prop where
  G : G5 W gz z d s l a
  X : AC W (gz + 1) x
  U : AC W g1 u
  V : AC W g2 v
  T : AC W g3 t
  N : AC W g4 noAV
theorem Vars.keep {W W' : World} {gz g1 g2 g3 g4 B : Nat} {z d s l a : Int} {x u v t : AV} (h : Vars W gz z d s l a x u v t g1 g2 g3 g4) (hb : Below B W W') (l0 : gz + 1 < g1) (l1 : g1 < g2) (l2 : g2 < g3) (l3 : g3 < g4) (l4 : g4 < B) : Vars W' gz z d s l a x u v t g1 g2 g3 g4 :=
  ⟨h.G.keep hb (by omega), h.X.keep hb (by omega), h.U.keep hb (by omega), h.V.keep hb (by omega), h.T.keep hb (by omega), h.N.keep hb l4⟩

theorem zero_at {W : World} {g : Nat} (h : AC W g noAV) : W.cell? ⟨g, 0, none⟩ = some (.int .i64 0) ∧ W.cell? ⟨g, 1, none⟩ = some (.int .i64 0) ∧ W.cell? ⟨g, 2, none⟩ = some (.int .i64 0) ∧ W.cell? ⟨g, 3, none⟩ = some (.int .i64 0) ∧ W.cell? ⟨g, 4, none⟩ = some (.int .i64 0) ∧ W.cell? ⟨g, 5, none⟩ = some (.string ⟨#[]⟩) ∧ W.cell? ⟨g, 6, none⟩ = some (.slice none 0 0) := ⟨h.c0, h.c1, h.c2, h.c3, h.c4, h.c5, h.c6⟩

set_option maxRecDepth 100000 in
set_option maxHeartbeats 16000000 in
theorem ae_geo (hV : ValidOk) (hC : CloneOk) (E h f : Int) (Q : Nat) (L : List UInt8) (X1 X2 : Anc) (z d s l a : Int) (x : AV) (lab : ByteArray) (A : Option Addr) (n c : Nat) (w : World) (hT : Tabs w) (hx : x.In w w.heap.size) (hh : ¬ HeavyA x.d) (hl : ¬ 200 < lab.size) (hn : ¬ 300 < n)
    (cF : ∀ W, Below w.heap.size w W → Calls Tryd.prog 11 #[.agg #[.int .i64 z, .int .i64 d, .int .i64 s, .int .i64 l, .int .i64 a], .string lab] W fun e w' => AnsA W.heap.size X1 E e w' ∧ Below W.heap.size W w')
    (cB : ∀ W (u : AV), Below w.heap.size w W → u.In W W.heap.size → u.d = x.d → Calls Tryd.prog 12 #[.agg #[.int .i64 z, .int .i64 d, .int .i64 s, .int .i64 l, .int .i64 a], u.v] W fun e w' => BytQ f Q L e w' ∧ Below W.heap.size W w')
    (cR : ∀ W, Below w.heap.size w W → Calls Tryd.prog 13 #[.agg #[.int .i64 z, .int .i64 d, .int .i64 s, .int .i64 l, .int .i64 a], .slice A n c] W fun e w' => AnsA W.heap.size X2 h e w' ∧ Below W.heap.size W w') (ho : ¬ Ok z d s l a) (hE : E = 1) (hf : f = 1) (hQ : Q = 0) (hh1 : h = 1) (hX1 : X1 = noAnc) (hX2 : X2 = noAnc) :
    Calls Tryd.prog 3 #[.agg #[.int .i64 z, .int .i64 d, .int .i64 s, .int .i64 l, .int .i64 a], x.v, .string lab, .slice A n c] w fun e w' => e = .returned (.bool true) ∧ Below w.heap.size w w' := by
  subst hE hf hQ hh1 hX1 hX2
  have HO := Lib.hid ho
  clear ho
  obtain ⟨t1, t2, t3⟩ := light hh
  have HT := Lib.hid hT
  have cH := fun W (hW : Below w.heap.size w W) => heavy_any false x W (hx.next hW) (iff_of_false Bool.false_ne_true hh)
  have cT := fun W (hW : Below w.heap.size w W) => twin_parted x W (hx.next hW) (by omega) (fun r hr => by have := t3 r hr; omega)
  have i1 : ¬ (200 : Int) < (lab.size : Int) := by omega
  have i2 : ¬ (300 : Int) < (n : Int) := by omega
  have HX := Lib.hid hx
  have HS := Lib.hid (show Few x.d from fun v hv => by
    have hln : v.hs.length = x.hs.length := (hds_length v.hs).symm.trans ((congrArg (fun u : Anc => u.hs.length) hv).trans (hds_length x.hs))
    refine ⟨by omega, fun r hr => ?_⟩
    have h1 : r.d ∈ hds x.hs := by rw [show hds x.hs = hds v.hs from (congrArg Anc.hs hv).symm]; exact List.mem_map_of_mem hr
    obtain ⟨q, hq, he⟩ := List.mem_map.1 h1
    have h2 := t3 q hq
    have h3 : q.ps = r.ps := congrArg Hom.ps he
    rw [h3] at h2
    omega)
  have HF := Lib.hid cF
  have HB := Lib.hid cB
  have HR := Lib.hid cR
  unfold AV.v
  have GG := (g5_new w z d s l a).keep (bl (w.alloc (.cells #[.int .i64 z, .int .i64 d, .int .i64 s, .int .i64 l, .int .i64 a] 23)) (.cells #[.int .i64 x.gen, .int .i64 x.ep, .int .i64 x.pos, .int .i64 x.seq, .int .i64 x.last, .string x.lab, .slice x.HA x.hs.length x.hc] 26)) (by simp)
  have FF := ac_new (w.alloc (.cells #[.int .i64 z, .int .i64 d, .int .i64 s, .int .i64 l, .int .i64 a] 23)) x
  have hb0 := kal (bl w (.cells #[.int .i64 z, .int .i64 d, .int .i64 s, .int .i64 l, .int .i64 a] 23)) (.cells #[.int .i64 x.gen, .int .i64 x.ep, .int .i64 x.pos, .int .i64 x.seq, .int .i64 x.last, .string x.lab, .slice x.HA x.hs.length x.hc] 26)
  rw [show (w.alloc (.cells #[.int .i64 z, .int .i64 d, .int .i64 s, .int .i64 l, .int .i64 a] 23)).heap.size = w.heap.size + 1 by simp] at FF
  have l1 : w.heap.size + 1 < ((w.alloc (.cells #[.int .i64 z, .int .i64 d, .int .i64 s, .int .i64 l, .int .i64 a] 23)).alloc (.cells #[.int .i64 x.gen, .int .i64 x.ep, .int .i64 x.pos, .int .i64 x.seq, .int .i64 x.last, .string x.lab, .slice x.HA x.hs.length x.hc] 26)).heap.size := by simp
  unfold AV.v at cH cT
  clear hx hh t1 t3 hT cF cB cR hl hn
  go_enter Tryd.func3, Tryd.ntmps3
  go_upto_region 1 with fail
  generalize (w.alloc (.cells #[.int .i64 z, .int .i64 d, .int .i64 s, .int .i64 l, .int .i64 a] 23)).alloc (.cells #[.int .i64 x.gen, .int .i64 x.ep, .int .i64 x.pos, .int .i64 x.seq, .int .i64 x.last, .string x.lab, .slice x.HA x.hs.length x.hc] 26) = w0 at *
  obtain ⟨c0, c1, c2, c3, c4, c5, c6⟩ := id FF
  obtain ⟨g0, g1, g2, g3, g4⟩ := id GG
  go_upto_region 4 with (first
    | (go_at_call 9; (with_reducible refine (cH _ hb0).mono ?_); rintro e wq ⟨rfl, hbq⟩; replace FF := FF.keep hbq (by omega); replace GG := GG.keep hbq (by omega); replace l1 := Nat.lt_of_lt_of_le l1 hbq.size; clear c0 c1 c2 c3 c4 c5 c6 g0 g1 g2 g3 g4; obtain ⟨c0, c1, c2, c3, c4, c5, c6⟩ := id FF; obtain ⟨g0, g1, g2, g3, g4⟩ := id GG; replace hb0 := bt hb0 hbq; clear hbq)
    | (go_at_call 10; (with_reducible refine (cT _ hb0).mono ?_); rintro e wT ⟨⟨u, rfl, hud, huo, -⟩, hbq⟩; replace FF := FF.keep hbq (by omega); replace GG := GG.keep hbq (by omega); replace l1 := Nat.lt_of_lt_of_le l1 hbq.size; clear c0 c1 c2 c3 c4 c5 c6 g0 g1 g2 g3 g4; obtain ⟨c0, c1, c2, c3, c4, c5, c6⟩ := id FF; obtain ⟨g0, g1, g2, g3, g4⟩ := id GG; replace hb0 := bt hb0 hbq; clear hbq))
  have huin := AV.Own.inn huo
  clear huo
  have hxA := bl wT (.cells #[.int .i64 u.gen, .int .i64 u.ep, .int .i64 u.pos, .int .i64 u.seq, .int .i64 u.last, .string u.lab, .slice u.HA u.hs.length u.hc] 26)
  have FU := ac_new wT u
  have lu : wT.heap.size < (wT.alloc (.cells #[.int .i64 u.gen, .int .i64 u.ep, .int .i64 u.pos, .int .i64 u.seq, .int .i64 u.last, .string u.lab, .slice u.HA u.hs.length u.hc] 26)).heap.size := by simp
  obtain ⟨gu, hgu⟩ : ∃ g, g = wT.heap.size := ⟨_, rfl⟩
  replace FF := FF.keep hxA (by omega)
  replace GG := GG.keep hxA (by omega)
  replace hb0 := bt hb0 hxA
  rw [← hgu] at FU lu l1 ⊢
  have huinb := Lib.hid (huin.next hxA)
  clear hxA hgu huin c0 c1 c2 c3 c4 c5 c6 g0 g1 g2 g3 g4
  generalize wT.alloc (.cells #[.int .i64 u.gen, .int .i64 u.ep, .int .i64 u.pos, .int .i64 u.seq, .int .i64 u.last, .string u.lab, .slice u.HA u.hs.length u.hc] 26) = w1 at *
  obtain ⟨c0, c1, c2, c3, c4, c5, c6⟩ := id FF
  obtain ⟨g0, g1, g2, g3, g4⟩ := id GG
  go_upto_region 5 with (go_at_call 11; (with_reducible refine (HF.out _ hb0).mono ?_); rintro e wF ⟨⟨v, hev, hvd, hvo⟩, hbq⟩; rw [AV.v] at hev; subst hev; have huinc := Lib.hid (huinb.out.next hbq); obtain ⟨d0, d1, d2, d3, d4, d5, d6⟩ := id FU; replace FF := FF.keep hbq (by omega); replace GG := GG.keep hbq (by omega); replace FU := FU.keep hbq (by omega); replace lu := Nat.lt_of_lt_of_le lu hbq.size; clear c0 c1 c2 c3 c4 c5 c6 g0 g1 g2 g3 g4 d0 d1 d2 d3 d4 d5 d6; obtain ⟨c0, c1, c2, c3, c4, c5, c6⟩ := id FF; obtain ⟨g0, g1, g2, g3, g4⟩ := id GG; obtain ⟨d0, d1, d2, d3, d4, d5, d6⟩ := id FU; replace hb0 := bt hb0 hbq; clear hbq)
  have hvin := AV.Own.inn hvo
  clear hvo huinb
  have hxA := bl wF (.cells #[.int .i64 v.gen, .int .i64 v.ep, .int .i64 v.pos, .int .i64 v.seq, .int .i64 v.last, .string v.lab, .slice v.HA v.hs.length v.hc] 26)
  have FV := ac_new wF v
  have lv : wF.heap.size < (wF.alloc (.cells #[.int .i64 v.gen, .int .i64 v.ep, .int .i64 v.pos, .int .i64 v.seq, .int .i64 v.last, .string v.lab, .slice v.HA v.hs.length v.hc] 26)).heap.size := by simp
  obtain ⟨gv, hgv⟩ : ∃ g, g = wF.heap.size := ⟨_, rfl⟩
  replace FF := FF.keep hxA (by omega)
  replace GG := GG.keep hxA (by omega)
  replace FU := FU.keep hxA (by omega)
  replace hb0 := bt hb0 hxA
  rw [← hgv] at FV lv lu ⊢
  have huind := Lib.hid (huinc.out.next hxA)
  have hvinb := Lib.hid (hvin.next hxA)
  clear hxA hgv hvin c0 c1 c2 c3 c4 c5 c6 g0 g1 g2 g3 g4 d0 d1 d2 d3 d4 d5 d6
  generalize wF.alloc (.cells #[.int .i64 v.gen, .int .i64 v.ep, .int .i64 v.pos, .int .i64 v.seq, .int .i64 v.last, .string v.lab, .slice v.HA v.hs.length v.hc] 26) = w2 at *
  clear huinc
  obtain ⟨c0, c1, c2, c3, c4, c5, c6⟩ := id FF
  obtain ⟨g0, g1, g2, g3, g4⟩ := id GG
  obtain ⟨d0, d1, d2, d3, d4, d5, d6⟩ := id FU
  have HBU := Lib.hid (show ∀ W, Below w2.heap.size w2 W → Calls Tryd.prog 12 #[.agg #[.int .i64 z, .int .i64 d, .int .i64 s, .int .i64 l, .int .i64 a], u.v] W fun e w' => BytQ 1 0 L e w' ∧ Below W.heap.size W w' from fun W hW => HB.out W u (bt hb0 hW) (huind.out.next hW) hud)
  unfold AV.v at HBU
  obtain ⟨e0, e1, e2, e3, e4, e5, e6⟩ := id FV
  go_upto_region 6 with (go_at_call 12; (with_reducible refine (HBU.out _ (Below.refl _ _)).mono ?_); rintro e wB ⟨⟨Y, yc, rfl, hY⟩, hbq⟩; have huine := Lib.hid (huind.out.next hbq); have hvine := Lib.hid (hvinb.out.next hbq); replace FF := FF.keep hbq (by omega); replace GG := GG.keep hbq (by omega); replace FU := FU.keep hbq (by omega); replace FV := FV.keep hbq (by omega); replace lv := Nat.lt_of_lt_of_le lv hbq.size; clear c0 c1 c2 c3 c4 c5 c6 g0 g1 g2 g3 g4 d0 d1 d2 d3 d4 d5 d6 e0 e1 e2 e3 e4 e5 e6; obtain ⟨c0, c1, c2, c3, c4, c5, c6⟩ := id FF; obtain ⟨g0, g1, g2, g3, g4⟩ := id GG; obtain ⟨d0, d1, d2, d3, d4, d5, d6⟩ := id FU; obtain ⟨e0, e1, e2, e3, e4, e5, e6⟩ := id FV; replace hb0 := bt hb0 hbq; clear hbq)
  clear huind hvinb HBU
  go_upto_region 7 with (go_at_call 13; (with_reducible refine (HR.out _ hb0).mono ?_); rintro e wR ⟨⟨t, het, htd, hto⟩, hbq⟩; rw [AV.v] at het; subst het; replace huine := Lib.hid (huine.out.next hbq); replace hvine := Lib.hid (hvine.out.next hbq); replace hY := hY.next hbq; replace FF := FF.keep hbq (by omega); replace GG := GG.keep hbq (by omega); replace FU := FU.keep hbq (by omega); replace FV := FV.keep hbq (by omega); replace lv := Nat.lt_of_lt_of_le lv hbq.size; clear c0 c1 c2 c3 c4 c5 c6 g0 g1 g2 g3 g4 d0 d1 d2 d3 d4 d5 d6 e0 e1 e2 e3 e4 e5 e6; obtain ⟨c0, c1, c2, c3, c4, c5, c6⟩ := id FF; obtain ⟨g0, g1, g2, g3, g4⟩ := id GG; obtain ⟨d0, d1, d2, d3, d4, d5, d6⟩ := id FU; obtain ⟨e0, e1, e2, e3, e4, e5, e6⟩ := id FV; replace hb0 := bt hb0 hbq; clear hbq)
  have htin := AV.Own.inn hto
  clear hto
  have hxA := bl wR (.cells #[.int .i64 t.gen, .int .i64 t.ep, .int .i64 t.pos, .int .i64 t.seq, .int .i64 t.last, .string t.lab, .slice t.HA t.hs.length t.hc] 26)
  have FT := ac_new wR t
  have lt : wR.heap.size < (wR.alloc (.cells #[.int .i64 t.gen, .int .i64 t.ep, .int .i64 t.pos, .int .i64 t.seq, .int .i64 t.last, .string t.lab, .slice t.HA t.hs.length t.hc] 26)).heap.size := by simp
  obtain ⟨gt, hgt⟩ : ∃ g, g = wR.heap.size := ⟨_, rfl⟩
  replace FF := FF.keep hxA (by omega)
  replace GG := GG.keep hxA (by omega)
  replace FU := FU.keep hxA (by omega)
  replace FV := FV.keep hxA (by omega)
  replace hb0 := bt hb0 hxA
  rw [← hgt] at FT lt lv ⊢
  have huinf := Lib.hid (huine.out.next hxA)
  have hvinf := Lib.hid (hvine.out.next hxA)
  replace hY := hY.next hxA
  have htinb := Lib.hid (htin.next hxA)
  clear hxA hgt htin c0 c1 c2 c3 c4 c5 c6 g0 g1 g2 g3 g4 d0 d1 d2 d3 d4 d5 d6 e0 e1 e2 e3 e4 e5 e6
  generalize wR.alloc (.cells #[.int .i64 t.gen, .int .i64 t.ep, .int .i64 t.pos, .int .i64 t.seq, .int .i64 t.last, .string t.lab, .slice t.HA t.hs.length t.hc] 26) = w3 at *
  clear huine hvine
  obtain ⟨g0, g1, g2, g3, g4⟩ := id GG
  go_upto_region 8 with fail
  have hxA := bl w3 (.cells #[.int .i64 0, .int .i64 0, .int .i64 0, .int .i64 0, .int .i64 0, .string ⟨#[]⟩, .slice none 0 0] 26)
  have FN := ac_new w3 noAV
  have ln : w3.heap.size < (w3.alloc (.cells #[.int .i64 0, .int .i64 0, .int .i64 0, .int .i64 0, .int .i64 0, .string ⟨#[]⟩, .slice none 0 0] 26)).heap.size := by simp
  have VV : Vars (w3.alloc (.cells #[.int .i64 0, .int .i64 0, .int .i64 0, .int .i64 0, .int .i64 0, .string ⟨#[]⟩, .slice none 0 0] 26)) w.heap.size z d s l a x u v t gu gv gt w3.heap.size := ⟨GG.keep hxA (by omega), FF.keep hxA (by omega), FU.keep hxA (by omega), FV.keep hxA (by omega), FT.keep hxA lt, FN⟩
  replace hb0 := bt hb0 hxA
  have HU := Lib.hid (huinf.out.next hxA)
  have HVI := Lib.hid (hvinf.out.next hxA)
  have HTI := Lib.hid (htinb.out.next hxA)
  replace hY := hY.next hxA
  obtain ⟨gn, hgn⟩ : ∃ g, g = w3.heap.size := ⟨_, rfl⟩
  rw [← hgn] at VV ln lt ⊢
  clear hgn hxA FN GG FF FU FV FT huinf hvinf htinb g0 g1 g2 g3 g4
  unfold AV.v at *
  generalize w3.alloc (.cells #[.int .i64 0, .int .i64 0, .int .i64 0, .int .i64 0, .int .i64 0, .string ⟨#[]⟩, .slice none 0 0] 26) = w8 at *
  have hb8 := Below.refl w8.heap.size w8
  have HG := Lib.hid (show ∀ W, Calls Tryd.prog 14 #[.agg #[.int .i64 z, .int .i64 d, .int .i64 s, .int .i64 l, .int .i64 a]] W fun e w' => e = .returned (.bool false) ∧ Below W.heap.size W w' from fun W => rgeo_at false z d s l a W (iff_of_false Bool.false_ne_true HO.out))
  have HCK := Lib.hid (show ∀ W, Calls Tryd.prog 15 #[.agg #[.int .i64 z, .int .i64 d, .int .i64 s, .int .i64 l, .int .i64 a], .agg #[.int .i64 u.gen, .int .i64 u.ep, .int .i64 u.pos, .int .i64 u.seq, .int .i64 u.last, .string u.lab, .slice u.HA u.hs.length u.hc]] W fun e w' => e = .returned (.int .i64 1) ∧ Below W.heap.size W w' from fun W => checkA_no z d s l a _ W ⟨u, rfl⟩ HO.out)
  have HA1 := Lib.hid (show ∀ W, Below w8.heap.size w8 W → Calls Tryd.prog 16 #[.agg #[.int .i64 v.gen, .int .i64 v.ep, .int .i64 v.pos, .int .i64 v.seq, .int .i64 v.last, .string v.lab, .slice v.HA v.hs.length v.hc], .agg #[.int .i64 0, .int .i64 0, .int .i64 0, .int .i64 0, .int .i64 0, .string ⟨#[]⟩, .slice none 0 0]] W fun e w' => e = .returned (.bool true) ∧ Below W.heap.size W w' from fun W hW => by
    have h9 := anchor_any v noAV W (HVI.out.next hW) ((noAV_own W 0).inn) (few_none v hvd).1 (few_none v hvd).2
    rwa [decide_eq_true (show v.d = noAV.d from hvd)] at h9)
  have HA2 := Lib.hid (show ∀ W, Below w8.heap.size w8 W → Calls Tryd.prog 16 #[.agg #[.int .i64 t.gen, .int .i64 t.ep, .int .i64 t.pos, .int .i64 t.seq, .int .i64 t.last, .string t.lab, .slice t.HA t.hs.length t.hc], .agg #[.int .i64 0, .int .i64 0, .int .i64 0, .int .i64 0, .int .i64 0, .string ⟨#[]⟩, .slice none 0 0]] W fun e w' => e = .returned (.bool true) ∧ Below W.heap.size W w' from fun W hW => by
    have h9 := anchor_any t noAV W (HTI.out.next hW) ((noAV_own W 0).inn) (few_none t htd).1 (few_none t htd).2
    rwa [decide_eq_true (show t.d = noAV.d from htd)] at h9)
  clear hY hvd htd
  obtain ⟨g0, g1, g2, g3, g4⟩ := id VV.G; obtain ⟨c0, c1, c2, c3, c4, c5, c6⟩ := id VV.X; obtain ⟨d0, d1, d2, d3, d4, d5, d6⟩ := id VV.U; obtain ⟨e0, e1, e2, e3, e4, e5, e6⟩ := id VV.V; obtain ⟨k0, k1, k2, k3, k4, k5, k6⟩ := id VV.T; obtain ⟨n0, n1, n2, n3, n4, n5, n6⟩ := zero_at VV.N
  go_wp2_with (first
    | (go_at_call 14; (with_reducible refine (HG.out _).mono ?_); rintro e wq ⟨rfl, hbq⟩; replace VV := VV.keep hbq l1 lu lv lt ln; replace ln := Nat.lt_of_lt_of_le ln hbq.size; clear g0 g1 g2 g3 g4 c0 c1 c2 c3 c4 c5 c6 d0 d1 d2 d3 d4 d5 d6 e0 e1 e2 e3 e4 e5 e6 k0 k1 k2 k3 k4 k5 k6 n0 n1 n2 n3 n4 n5 n6; obtain ⟨g0, g1, g2, g3, g4⟩ := id VV.G; obtain ⟨c0, c1, c2, c3, c4, c5, c6⟩ := id VV.X; obtain ⟨d0, d1, d2, d3, d4, d5, d6⟩ := id VV.U; obtain ⟨e0, e1, e2, e3, e4, e5, e6⟩ := id VV.V; obtain ⟨k0, k1, k2, k3, k4, k5, k6⟩ := id VV.T; obtain ⟨n0, n1, n2, n3, n4, n5, n6⟩ := zero_at VV.N; replace hb0 := bt hb0 hbq; replace hb8 := bt hb8 hbq; clear hbq)
    | (go_at_call 15; (with_reducible refine (HCK.out _).mono ?_); rintro e wq ⟨rfl, hbq⟩; replace VV := VV.keep hbq l1 lu lv lt ln; replace ln := Nat.lt_of_lt_of_le ln hbq.size; clear g0 g1 g2 g3 g4 c0 c1 c2 c3 c4 c5 c6 d0 d1 d2 d3 d4 d5 d6 e0 e1 e2 e3 e4 e5 e6 k0 k1 k2 k3 k4 k5 k6 n0 n1 n2 n3 n4 n5 n6; obtain ⟨g0, g1, g2, g3, g4⟩ := id VV.G; obtain ⟨c0, c1, c2, c3, c4, c5, c6⟩ := id VV.X; obtain ⟨d0, d1, d2, d3, d4, d5, d6⟩ := id VV.U; obtain ⟨e0, e1, e2, e3, e4, e5, e6⟩ := id VV.V; obtain ⟨k0, k1, k2, k3, k4, k5, k6⟩ := id VV.T; obtain ⟨n0, n1, n2, n3, n4, n5, n6⟩ := zero_at VV.N; replace hb0 := bt hb0 hbq; replace hb8 := bt hb8 hbq; clear hbq)
    | (go_at_call 16; (with_reducible refine (HA1.out _ hb8).mono ?_); rintro e wq ⟨rfl, hbq⟩; replace VV := VV.keep hbq l1 lu lv lt ln; replace ln := Nat.lt_of_lt_of_le ln hbq.size; clear g0 g1 g2 g3 g4 c0 c1 c2 c3 c4 c5 c6 d0 d1 d2 d3 d4 d5 d6 e0 e1 e2 e3 e4 e5 e6 k0 k1 k2 k3 k4 k5 k6 n0 n1 n2 n3 n4 n5 n6; obtain ⟨g0, g1, g2, g3, g4⟩ := id VV.G; obtain ⟨c0, c1, c2, c3, c4, c5, c6⟩ := id VV.X; obtain ⟨d0, d1, d2, d3, d4, d5, d6⟩ := id VV.U; obtain ⟨e0, e1, e2, e3, e4, e5, e6⟩ := id VV.V; obtain ⟨k0, k1, k2, k3, k4, k5, k6⟩ := id VV.T; obtain ⟨n0, n1, n2, n3, n4, n5, n6⟩ := zero_at VV.N; replace hb0 := bt hb0 hbq; replace hb8 := bt hb8 hbq; clear hbq)
    | (go_at_call 16; (with_reducible refine (HA2.out _ hb8).mono ?_); rintro e wq ⟨rfl, hbq⟩; replace VV := VV.keep hbq l1 lu lv lt ln; replace ln := Nat.lt_of_lt_of_le ln hbq.size; clear g0 g1 g2 g3 g4 c0 c1 c2 c3 c4 c5 c6 d0 d1 d2 d3 d4 d5 d6 e0 e1 e2 e3 e4 e5 e6 k0 k1 k2 k3 k4 k5 k6 n0 n1 n2 n3 n4 n5 n6; obtain ⟨g0, g1, g2, g3, g4⟩ := id VV.G; obtain ⟨c0, c1, c2, c3, c4, c5, c6⟩ := id VV.X; obtain ⟨d0, d1, d2, d3, d4, d5, d6⟩ := id VV.U; obtain ⟨e0, e1, e2, e3, e4, e5, e6⟩ := id VV.V; obtain ⟨k0, k1, k2, k3, k4, k5, k6⟩ := id VV.T; obtain ⟨n0, n1, n2, n3, n4, n5, n6⟩ := zero_at VV.N; replace hb0 := bt hb0 hbq; replace hb8 := bt hb8 hbq; clear hbq)
    | (go_at_call 17; (with_reducible refine (wk_anc hV hC _ (tn HT.out hb0)).mono ?_); rintro e wz ⟨rfl, hbz⟩))
  go_ret
  exact ⟨rfl, bt hb0 hbz⟩
end Go.Proofs.YtkpbfhjpmhgmoaaDoor.anc
