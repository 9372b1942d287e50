/-
  What the laws ask of package place and of the document's page on it, in plain data: right anchors, whose memory is anyone's. Conditions: 'ValidOk', 'CloneOk', 'Tabs' (proved apart).
-/
import Derived.Test.YthbjfpgcinmjiaaDoorPlG
import Derived.Test.YthbjfpgcinmjiaaDoorGAe
namespace Go.Proofs.YthbjfpgcinmjiaaDoor.plc
open Go.RowKit Go.Lib
open Go.Proofs.YthbjfpgcinmjiaaDoor.gmt (Ok five_new slot_at rslot_at w6)
open Go.Proofs.YthbjfpgcinmjiaaDoor.anc
open Go.Proofs.YthbjfpgcinmjiaaDoor.lbl (ValidOk CloneOk Tabs lab_len labE)

theorem size_l (b : ByteArray) : b.data.toList.length = b.size := by simp
theorem good_lab {z d s l : Int} {x : AV} (hg : anc.Good z d s l x.d) : x.lab.size ≤ 4294967296 := by
  have h := lab_len hg.2.2.2.2.2.2.1
  rw [size_l] at h
  have : x.d.lab.size = x.lab.size := rfl
  omega
theorem good_few {z d s l a : Int} {x : AV} (ho : Ok z d s l a) (hg : anc.Good z d s l x.d) : x.hs.length ≤ 20 ∧ HShort 20 x.hs := by
  obtain ⟨o1, o2, -⟩ := ho
  have h8 := hg.2.2.2.2.2.2.2.1
  have h7 : (hds x.hs).length = x.hs.length := hds_length _
  have h6 : x.d.hs.length = (hds x.hs).length := rfl
  refine ⟨by omega, fun r hr => ?_⟩
  obtain ⟨k1, -⟩ := hg.2.2.2.2.2.2.2.2 r.d (List.mem_map_of_mem hr)
  have : r.d.ps.length = r.ps.length := rfl
  omega
theorem few_more {n : Nat} {hs : List HomR} (h : HShort 20 hs) (hn : 20 ≤ n) : HShort n hs := fun r hr => Nat.le_trans (h r hr) hn
section
variable (hV : ValidOk) (hC : CloneOk) (z d s l a : Int) (x : AV) (w : World)
include hV
theorem addr_g (J i : Nat) (v p : Int) (h : Hom) (hT : Tabs w) (ho : Ok z d s l a) (hx : x.In w w.heap.size) (hg : anc.Good z d s l x.d) (hr : x.d.hs[J]? = some h) (hw : IsWhat d v) (hi : atP d v = (i : Int)) (hp : h.ps[i]? = some p) :
    Calls Tryd.prog 8 #[.agg #[.int .i64 z, .int .i64 d, .int .i64 s, .int .i64 l, .int .i64 a], x.v, .int .i64 J, .int .i64 v] w fun e w' => e = .returned (.tuple #[.int .i64 (slotA z d s l a J p), .int .i64 0]) ∧ Below w.heap.size w w' := by
  obtain ⟨r, hr', rfl⟩ := hds_at hr
  exact addr_yes hV z d s l a x J i v p r w hT (good_lab hg) hw ho hx hg hr' hi hp
theorem spares_g (J : Nat) (h : Hom) (hT : Tabs w) (ho : Ok z d s l a) (hx : x.In w w.heap.size) (hg : anc.Good z d s l x.d) (hr : x.d.hs[J]? = some h) :
    Calls Tryd.prog 9 #[.agg #[.int .i64 z, .int .i64 d, .int .i64 s, .int .i64 l, .int .i64 a], x.v, .int .i64 J] w fun e w' => e = .returned (.tuple #[.int .i64 (d + 1 + s - h.nx), .int .i64 0]) ∧ Below w.heap.size w w' := by
  obtain ⟨r, hr', rfl⟩ := hds_at hr
  exact spares_yes hV z d s l a x J r w hT (good_lab hg) ho hx hg hr'
include hC
theorem skip_g (J : Nat) (h : Hom) (hT : Tabs w) (ho : Ok z d s l a) (hx : x.In w w.heap.size) (hg : anc.Good z d s l x.d) (hr : x.d.hs[J]? = some h) (hn : h.nx < d + 1 + s) :
    Calls Tryd.prog 11 #[.agg #[.int .i64 z, .int .i64 d, .int .i64 s, .int .i64 l, .int .i64 a], x.v, .int .i64 J] w fun e w' => AnsP w.heap.size (skipA x.d J h) 0 e w' ∧ Below w.heap.size w w' := by
  obtain ⟨r, hr', rfl⟩ := hds_at hr
  obtain ⟨f1, f2⟩ := good_few ho hg
  exact skip_yes hV hC z d s l a x J r w hT (good_lab hg) (by omega) (few_more f2 (by omega)) ho hx hg hr' hn
theorem skip_g0 (J : Nat) (h : Hom) (hT : Tabs w) (ho : Ok z d s l a) (hx : x.In w w.heap.size) (hg : anc.Good z d s l x.d) (hr : x.d.hs[J]? = some h) (hn : h.nx = d + 1 + s) :
    Calls Tryd.prog 11 #[.agg #[.int .i64 z, .int .i64 d, .int .i64 s, .int .i64 l, .int .i64 a], x.v, .int .i64 J] w fun e w' => AnsP w.heap.size noAnc 10 e w' ∧ Below w.heap.size w w' := by
  obtain ⟨r, hr', rfl⟩ := hds_at hr
  obtain ⟨f1, f2⟩ := good_few ho hg
  exact skip_none hV hC z d s l a x J r w hT (good_lab hg) (by omega) (few_more f2 (by omega)) ho hx hg hr' hn
theorem move_g (J i : Nat) (v : Int) (h : Hom) (hT : Tabs w) (ho : Ok z d s l a) (hx : x.In w w.heap.size) (hg : anc.Good z d s l x.d) (hr : x.d.hs[J]? = some h) (hw : IsWhat d v) (hi : atP d v = (i : Int)) (hil : i < h.ps.length) (hn : h.nx < d + 1 + s) :
    Calls Tryd.prog 10 #[.agg #[.int .i64 z, .int .i64 d, .int .i64 s, .int .i64 l, .int .i64 a], x.v, .int .i64 J, .int .i64 v] w fun e w' => AnsM w.heap.size (moveA x.d J i h) (slotA z d s l a J h.nx) 0 e w' ∧ Below w.heap.size w w' := by
  obtain ⟨r, hr', rfl⟩ := hds_at hr
  obtain ⟨f1, f2⟩ := good_few ho hg
  exact move_yes hV hC z d s l a x J v r w hT (good_lab hg) (by omega) (few_more f2 (by omega)) ho hx hg hr' hw hn i hi hil
theorem move_g0 (J : Nat) (v : Int) (h : Hom) (hT : Tabs w) (ho : Ok z d s l a) (hx : x.In w w.heap.size) (hg : anc.Good z d s l x.d) (hr : x.d.hs[J]? = some h) (hw : IsWhat d v) (hn : h.nx = d + 1 + s) :
    Calls Tryd.prog 10 #[.agg #[.int .i64 z, .int .i64 d, .int .i64 s, .int .i64 l, .int .i64 a], x.v, .int .i64 J, .int .i64 v] w fun e w' => AnsM w.heap.size noAnc 0 10 e w' ∧ Below w.heap.size w w' := by
  obtain ⟨r, hr', rfl⟩ := hds_at hr
  obtain ⟨f1, f2⟩ := good_few ho hg
  exact move_none hV hC z d s l a x J v r w hT (good_lab hg) (by omega) (few_more f2 (by omega)) ho hx hg hr' hw hn
end
/-- A what has its place. -/
theorem at_in {z d s l a v : Int} {X : Anc} {J : Nat} {h : Hom} (ho : Ok z d s l a) (hg : anc.Good z d s l X) (hr : X.hs[J]? = some h) (hw : IsWhat d v) : ∃ i : Nat, atP d v = (i : Int) ∧ i < h.ps.length := by
  obtain ⟨k1, -⟩ := good_home hg hr
  obtain ⟨-, o2, -⟩ := ho
  unfold atP IsWhat at *
  by_cases h1 : v = -1
  · rw [if_pos h1]
    exact ⟨d.toNat, by omega, by omega⟩
  · rw [if_neg h1]
    obtain ⟨h2, h3⟩ := hw.resolve_left h1
    exact ⟨v.toNat, by omega, by omega⟩

theorem ok_w : Ok 1 3 1 14 1 := by unfold Ok; omega
theorem lab_w : labE (⟨#[]⟩ : ByteArray).data.toList = 0 := by decide
theorem good_w : anc.Good 1 3 1 14 (firstA 1 3 ⟨#[]⟩) := first_good ok_w lab_w
def homW : Hom := newH 3
theorem home_w : (firstA 1 3 ⟨#[]⟩).hs[0]? = some homW := rfl
set_option maxRecDepth 100000 in
theorem some_w (w : World) :
    Calls Tryd.prog 20 #[.int .i64 0, .int .i64 2, .int .i64 1, .int .i64 0, .int .i64 0] w fun e w' => e = .returned (.agg #[.int .i64 1, .int .i64 3, .int .i64 1, .int .i64 14, .int .i64 1]) ∧ Below w.heap.size w w' := by
  go_enter Tryd.func20, Tryd.ntmps20
  go_wp2
  obtain ⟨g0, g1, g2, g3, g4⟩ := five_new w 1 3 1 14 1
  exact bodyPost_ret (v := .agg #[.int .i64 1, .int .i64 3, .int .i64 1, .int .i64 14, .int .i64 1]) (by simp [results, Tryd.results20, go_sem, g0, g1, g2, g3, g4]) rfl ⟨rfl, bl w _⟩
set_option maxRecDepth 100000 in
set_option maxHeartbeats 8000000 in
theorem wk_place (hV : ValidOk) (hC : CloneOk) (w : World) (hT : Tabs w) :
    Calls Tryd.prog 15 #[] w fun e w' => e = .returned (.bool true) ∧ Below w.heap.size w w' := by
  have HT := Lib.hid hT
  clear hT
  have HWH := Lib.hid (show IsWhat 3 (-1) from .inl rfl)
  go_enter Tryd.func15, Tryd.ntmps15
  go_upto_region 2 with (go_at_call 20; (with_reducible refine (some_w _).mono ?_); rintro e w1 ⟨rfl, hb1⟩)
  have hx1 := bl w1 (.cells #[.int .i64 1, .int .i64 3, .int .i64 1, .int .i64 14, .int .i64 1] 23)
  have GG := g5_new w1 1 3 1 14 1
  have B1 := bt hb1 hx1
  obtain ⟨gG, hgG⟩ : ∃ g, g = w1.heap.size := ⟨_, rfl⟩
  rw [← hgG] at GG ⊢
  have lG : gG < (w1.alloc (.cells #[.int .i64 1, .int .i64 3, .int .i64 1, .int .i64 14, .int .i64 1] 23)).heap.size := by rw [hgG]; simp
  clear hb1 hx1 hgG
  generalize w1.alloc (.cells #[.int .i64 1, .int .i64 3, .int .i64 1, .int .i64 14, .int .i64 1] 23) = w2 at *
  obtain ⟨g0, g1, g2, g3, g4⟩ := id GG
  go_upto_region 3 with (go_at_call 21; (with_reducible refine (rfirst_any 1 3 1 14 1 ⟨#[]⟩ _ ok_w).mono ?_); rintro e w3 ⟨⟨x, hex, hxd, hxo⟩, hb3⟩; rw [AV.v] at hex; subst hex)
  have hx3 := bl w3 (.cells #[.int .i64 x.gen, .int .i64 x.ep, .int .i64 x.pos, .int .i64 x.seq, .int .i64 x.last, .string x.lab, .slice x.HA x.hs.length x.hc] 26)
  have FF := ac_new w3 x
  have HXI := Lib.hid ((AV.Own.inn hxo).next hx3)
  replace GG := (GG.keep hb3 lG).keep hx3 (Nat.lt_of_lt_of_le lG hb3.size)
  replace B1 := bt (bt B1 hb3) hx3
  replace lG := Nat.lt_of_lt_of_le lG hb3.size
  obtain ⟨gA, hgA⟩ : ∃ g, g = w3.heap.size := ⟨_, rfl⟩
  rw [← hgA] at FF lG ⊢
  have lA : gA < (w3.alloc (.cells #[.int .i64 x.gen, .int .i64 x.ep, .int .i64 x.pos, .int .i64 x.seq, .int .i64 x.last, .string x.lab, .slice x.HA x.hs.length x.hc] 26)).heap.size := by rw [hgA]; simp
  have HXD := Lib.hid hxd
  clear hb3 hx3 hgA hxo hxd g0 g1 g2 g3 g4
  generalize w3.alloc (.cells #[.int .i64 x.gen, .int .i64 x.ep, .int .i64 x.pos, .int .i64 x.seq, .int .i64 x.last, .string x.lab, .slice x.HA x.hs.length x.hc] 26) = w4 at *
  have hgood : anc.Good 1 3 1 14 x.d := by rw [HXD.out]; exact good_w
  have hhome : x.d.hs[0]? = some homW := by rw [HXD.out]; exact home_w
  have HAD := Lib.hid (show Calls Tryd.prog 8 #[.agg #[.int .i64 1, .int .i64 3, .int .i64 1, .int .i64 14, .int .i64 1], x.v, .int .i64 0, .int .i64 (-1)] w4 fun e w' => e = .returned (.tuple #[.int .i64 34, .int .i64 0]) ∧ Below w4.heap.size w4 w' from addr_g hV 1 3 1 14 1 x w4 0 3 (-1) 3 homW (tn HT.out B1) ok_w HXI.out hgood hhome HWH.out rfl rfl)
  have HMV := Lib.hid (show ∀ W, Below w4.heap.size w4 W → Calls Tryd.prog 10 #[.agg #[.int .i64 1, .int .i64 3, .int .i64 1, .int .i64 14, .int .i64 1], x.v, .int .i64 0, .int .i64 (-1)] W fun e w' => AnsM W.heap.size (moveA (firstA 1 3 ⟨#[]⟩) 0 3 homW) 35 0 e w' ∧ Below W.heap.size W w' from fun W hW => by
    rw [← HXD.out]
    exact move_g hV hC 1 3 1 14 1 x W 0 3 (-1) homW (tn HT.out (bt B1 hW)) ok_w (HXI.out.next hW) hgood hhome HWH.out rfl (by decide) (by decide))
  unfold AV.v at HAD HMV
  clear hgood hhome
  obtain ⟨g0, g1, g2, g3, g4⟩ := id GG
  obtain ⟨c0, c1, c2, c3, c4, c5, c6⟩ := id FF
  go_upto_region 4 with (go_at_call 8; (with_reducible refine HAD.out.mono ?_); rintro e w5 ⟨rfl, hb5⟩)
  replace GG := GG.keep hb5 (by omega)
  replace FF := FF.keep hb5 lA
  clear g0 g1 g2 g3 g4 c0 c1 c2 c3 c4 c5 c6 HAD
  have hz5 := hb5.size
  obtain ⟨g0, g1, g2, g3, g4⟩ := id GG
  obtain ⟨c0, c1, c2, c3, c4, c5, c6⟩ := id FF
  go_upto_region 5 with (go_at_call 10; (with_reducible refine (HMV.out _ hb5).mono ?_); rintro e w6 ⟨⟨y, hey, hyd, hyo, -⟩, hb6⟩; rw [AV.v] at hey; subst hey)
  have hx6 := bl w6 (.cells #[.int .i64 y.gen, .int .i64 y.ep, .int .i64 y.pos, .int .i64 y.seq, .int .i64 y.last, .string y.lab, .slice y.HA y.hs.length y.hc] 26)
  have FY := ac_new w6 y
  have yo := OwnH.below hyo hx6
  have hz6 := hb6.size
  replace GG := (GG.keep hb6 (by omega)).keep hx6 (by omega)
  have B7 := bt (bt (bt B1 hb5) hb6) hx6
  have lY : w6.heap.size < (w6.alloc (.cells #[.int .i64 y.gen, .int .i64 y.ep, .int .i64 y.pos, .int .i64 y.seq, .int .i64 y.last, .string y.lab, .slice y.HA y.hs.length y.hc] 26)).heap.size := by simp
  obtain ⟨gY, hgY⟩ : ∃ g, g = w6.heap.size := ⟨_, rfl⟩
  rw [← hgY] at FY lY ⊢
  have lG7 : gG < gY := by omega
  clear hb5 hb6 hx6 hgY hyo hz6 hz5 g0 g1 g2 g3 g4 c0 c1 c2 c3 c4 c5 c6 FF lA lG HMV
  generalize w6.alloc (.cells #[.int .i64 y.gen, .int .i64 y.ep, .int .i64 y.pos, .int .i64 y.seq, .int .i64 y.last, .string y.lab, .slice y.HA y.hs.length y.hc] 26) = w7 at *
  have HYI := Lib.hid (AV.Own.inn yo)
  have hgy : anc.Good 1 3 1 14 y.d := by rw [hyd]; exact good_move good_w home_w (by decide)
  have hyr : y.d.hs[0]? = some { homW with ps := homW.ps.set 3 homW.nx, nx := homW.nx + 1 } := by rw [hyd]; exact move_at home_w
  have HSP := Lib.hid (show Calls Tryd.prog 9 #[.agg #[.int .i64 1, .int .i64 3, .int .i64 1, .int .i64 14, .int .i64 1], y.v, .int .i64 0] w7 fun e w' => e = .returned (.tuple #[.int .i64 0, .int .i64 0]) ∧ Below w7.heap.size w7 w' from spares_g hV 1 3 1 14 1 y w7 0 _ (tn HT.out B7) ok_w HYI.out hgy hyr)
  unfold AV.v at HSP
  have hyl : y.hs.length = 1 := by
    have h9 : (hds y.hs).length = 1 := congrArg (fun u : Anc => u.hs.length) hyd
    rwa [hds_length] at h9
  have HYL := Lib.hid hyl
  clear hyl
  obtain ⟨r, hr', hrd⟩ := hds_at hyr
  have hrn : r.nx = 5 := congrArg Hom.nx hrd
  have HRN := Lib.hid hrn
  clear hrn
  obtain ⟨g0, g1, g2, g3, g4⟩ := id GG
  obtain ⟨c0, c1, c2, c3, c4, c5, c6⟩ := id FY
  go_upto_region 6 with (go_at_call 9; (with_reducible refine HSP.out.mono ?_); rintro e w8 ⟨rfl, hb8⟩)
  have c6' := (FY.keep hb8 lY).c6
  obtain ⟨g, hgA, -, hgl, hgc, -, n1, -⟩ := own_next (OwnH.below yo hb8) hr'
  have hyl := HYL.out
  rw [hgA, hyl] at c6'
  rw [HRN.out, Nat.zero_mul, Nat.zero_add] at n1
  have B9 := bt B7 hb8
  have hyc : (1 : Int) ≤ (y.hc : Int) := by omega
  clear hyl
  clear g0 g1 g2 g3 g4 c0 c1 c2 c3 c4 c5 c6 GG FY HSP HYI hgy hyr hyd hr' hrd yo hb8 B7
  go_wp2_with fail
  go_ret
  exact ⟨rfl, B9⟩
end Go.Proofs.YthbjfpgcinmjiaaDoor.plc
