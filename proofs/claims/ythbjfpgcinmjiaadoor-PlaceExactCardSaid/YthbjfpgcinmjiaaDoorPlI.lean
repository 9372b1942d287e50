/-
  The law PlaceExact, its walks where a geometry, an anchor or a zone is none. Conditions: 'ValidOk', 'CloneOk', 'Tabs'.
-/
import Derived.Test.YthbjfpgcinmjiaaDoorPlN
import Derived.Test.YthbjfpgcinmjiaaDoorGAu
namespace Go.Proofs.YthbjfpgcinmjiaaDoor.plc
open Go.RowKit Go.Lib
open Go.Proofs.YthbjfpgcinmjiaaDoor.gmt (Ok five_new slot_at rslot_at w6)
open Go.Proofs.YthbjfpgcinmjiaaDoor.anc
open Go.Proofs.YthbjfpgcinmjiaaDoor.lbl (ValidOk CloneOk Tabs lab_len labE)

theorem short_d {m : AV} {X : Anc} (h : m.d = X) (h1 : X.hs.length ≤ 1048576) (h2 : ∀ k ∈ X.hs, k.ps.length ≤ 1048576) : m.hs.length ≤ 1048576 ∧ HShort 1048576 m.hs := by
  have e : hds m.hs = X.hs := congrArg Anc.hs h
  refine ⟨?_, fun r hr => ?_⟩
  · rw [← hds_length, e]; exact h1
  · have := h2 r.d (by rw [← e]; exact List.mem_map_of_mem hr)
    exact this
theorem cmp_yes (p q : AV) (W : World) (hp : p.In W W.heap.size) (hq : q.In W W.heap.size) (hd : p.d = q.d) (h : p.hs.length ≤ 1048576 ∧ HShort 1048576 p.hs) :
    Calls Tryd.prog 12 #[p.v, q.v] W fun e w' => e = .returned (.bool true) ∧ Below W.heap.size W w' := by
  have := anchor_any p q W hp hq h.1 h.2
  rwa [decide_eq_true hd] at this
theorem noAV_in (W : World) : noAV.In W W.heap.size := AV.Own.inn (noAV_own W 0)
theorem short_no {m : AV} (h : m.d = noAnc) : m.hs.length ≤ 1048576 ∧ HShort 1048576 m.hs := short_d h (by decide) (fun k hk => by cases hk)

set_option maxRecDepth 100000 in
set_option maxHeartbeats 8000000 in
theorem pe_heavy (z d s l a : Int) (x : AV) (zn wh : Int) (w : World) (hx : x.In w w.heap.size) (hh : HeavyA x.d) :
    Calls Tryd.prog 3 #[.agg #[.int .i64 z, .int .i64 d, .int .i64 s, .int .i64 l, .int .i64 a], x.v, .int .i64 zn, .int .i64 wh] w fun e w' => e = .returned (.bool true) ∧ Below w.heap.size w w' := by
  have cH := fun W (hW : Below w.heap.size w W) => heavy_any true x W (hx.next hW) (iff_of_true rfl hh)
  unfold AV.v
  have GG := (g5_new w z d s l a).keep (bl (w.alloc (.cells #[.int .i64 z, .int .i64 d, .int .i64 s, .int .i64 l, .int .i64 a] 23)) (.cells #[.int .i64 x.gen, .int .i64 x.ep, .int .i64 x.pos, .int .i64 x.seq, .int .i64 x.last, .string x.lab, .slice x.HA x.hs.length x.hc] 26)) (by simp)
  have FF := ac_new (w.alloc (.cells #[.int .i64 z, .int .i64 d, .int .i64 s, .int .i64 l, .int .i64 a] 23)) x
  have hb0 := kal (bl w (.cells #[.int .i64 z, .int .i64 d, .int .i64 s, .int .i64 l, .int .i64 a] 23)) (.cells #[.int .i64 x.gen, .int .i64 x.ep, .int .i64 x.pos, .int .i64 x.seq, .int .i64 x.last, .string x.lab, .slice x.HA x.hs.length x.hc] 26)
  rw [show (w.alloc (.cells #[.int .i64 z, .int .i64 d, .int .i64 s, .int .i64 l, .int .i64 a] 23)).heap.size = w.heap.size + 1 by simp] at FF
  have l1 : w.heap.size + 1 < ((w.alloc (.cells #[.int .i64 z, .int .i64 d, .int .i64 s, .int .i64 l, .int .i64 a] 23)).alloc (.cells #[.int .i64 x.gen, .int .i64 x.ep, .int .i64 x.pos, .int .i64 x.seq, .int .i64 x.last, .string x.lab, .slice x.HA x.hs.length x.hc] 26)).heap.size := by simp
  unfold AV.v at cH
  clear hx hh
  go_enter Tryd.func3, Tryd.ntmps3
  go_upto_region 1 with fail
  generalize (w.alloc (.cells #[.int .i64 z, .int .i64 d, .int .i64 s, .int .i64 l, .int .i64 a] 23)).alloc (.cells #[.int .i64 x.gen, .int .i64 x.ep, .int .i64 x.pos, .int .i64 x.seq, .int .i64 x.last, .string x.lab, .slice x.HA x.hs.length x.hc] 26) = w0 at *
  obtain ⟨c0, c1, c2, c3, c4, c5, c6⟩ := id FF
  obtain ⟨g0, g1, g2, g3, g4⟩ := id GG
  go_wp2_with (first
    | (go_at_call 6; (with_reducible refine (cH _ hb0).mono ?_); rintro e wq ⟨rfl, hbq⟩; replace FF := FF.keep hbq (by omega); replace GG := GG.keep hbq (by omega); replace l1 := Nat.lt_of_lt_of_le l1 hbq.size; clear c0 c1 c2 c3 c4 c5 c6 g0 g1 g2 g3 g4; obtain ⟨c0, c1, c2, c3, c4, c5, c6⟩ := id FF; obtain ⟨g0, g1, g2, g3, g4⟩ := id GG; replace hb0 := bt hb0 hbq; clear hbq))
  go_ret
  exact ⟨rfl, hb0⟩
set_option maxRecDepth 100000 in
set_option maxHeartbeats 8000000 in
theorem pe_geo (z d s l a : Int) (x : AV) (zn wh : Int) (w : World) (hx : x.In w w.heap.size) (hh : ¬ HeavyA x.d) (ho : ¬ Ok z d s l a) (cA : ∀ (u : AV) W, Below w.heap.size w W → u.d = x.d → u.In W W.heap.size → Calls Tryd.prog 8 #[.agg #[.int .i64 z, .int .i64 d, .int .i64 s, .int .i64 l, .int .i64 a], u.v, .int .i64 zn, .int .i64 wh] W fun e w' => e = .returned (.tuple #[.int .i64 0, .int .i64 1]) ∧ Below W.heap.size W w') (cS : ∀ (u : AV) W, Below w.heap.size w W → u.d = x.d → u.In W W.heap.size → Calls Tryd.prog 9 #[.agg #[.int .i64 z, .int .i64 d, .int .i64 s, .int .i64 l, .int .i64 a], u.v, .int .i64 zn] W fun e w' => e = .returned (.tuple #[.int .i64 0, .int .i64 1]) ∧ Below W.heap.size W w') (cM : ∀ (u : AV) W, Below w.heap.size w W → u.d = x.d → u.In W W.heap.size → Calls Tryd.prog 10 #[.agg #[.int .i64 z, .int .i64 d, .int .i64 s, .int .i64 l, .int .i64 a], u.v, .int .i64 zn, .int .i64 wh] W fun e w' => AnsM W.heap.size noAnc 0 1 e w' ∧ Below W.heap.size W w') (cK : ∀ (u : AV) W, Below w.heap.size w W → u.d = x.d → u.In W W.heap.size → Calls Tryd.prog 11 #[.agg #[.int .i64 z, .int .i64 d, .int .i64 s, .int .i64 l, .int .i64 a], u.v, .int .i64 zn] W fun e w' => AnsP W.heap.size noAnc 1 e w' ∧ Below W.heap.size W w') (cW : ∀ W, Below w.heap.size w W → Calls Tryd.prog 15 #[] W fun e w' => e = .returned (.bool true) ∧ Below W.heap.size W w') :
    Calls Tryd.prog 3 #[.agg #[.int .i64 z, .int .i64 d, .int .i64 s, .int .i64 l, .int .i64 a], x.v, .int .i64 zn, .int .i64 wh] w fun e w' => e = .returned (.bool true) ∧ Below w.heap.size w w' := by
  obtain ⟨t1, t2, t3⟩ := light hh
  have cH := fun W (hW : Below w.heap.size w W) => heavy_any false x W (hx.next hW) (iff_of_false Bool.false_ne_true hh)
  have HSX := Lib.hid (show x.hs.length ≤ 1048576 ∧ HShort 1048576 x.hs from ⟨by omega, fun r hr => by have := t3 r hr; omega⟩)
  have HTW := Lib.hid (show ∀ W, Below w.heap.size w W → Calls Tryd.prog 7 #[x.v] W fun e w' => (∃ y : AV, e = .returned y.v ∧ y.d = x.d ∧ y.Own w' W.heap.size ∧ Parted y.hs) ∧ Below W.heap.size W w' from fun W hW => twin_parted x W (hx.next hW) (by omega) (fun r hr => by have := t3 r hr; omega))
  have HX := Lib.hid hx
  have HA := Lib.hid cA
  have HS := Lib.hid cS
  have HM := Lib.hid cM
  have HK := Lib.hid cK
  have HW := Lib.hid cW
  have HG := Lib.hid (fun W => gmt.rgeo_at false z d s l a W (iff_of_false Bool.false_ne_true ho))
  clear ho
  unfold AV.v
  have GG := (g5_new w z d s l a).keep (bl (w.alloc (.cells #[.int .i64 z, .int .i64 d, .int .i64 s, .int .i64 l, .int .i64 a] 23)) (.cells #[.int .i64 x.gen, .int .i64 x.ep, .int .i64 x.pos, .int .i64 x.seq, .int .i64 x.last, .string x.lab, .slice x.HA x.hs.length x.hc] 26)) (by simp)
  have FF := ac_new (w.alloc (.cells #[.int .i64 z, .int .i64 d, .int .i64 s, .int .i64 l, .int .i64 a] 23)) x
  have hb0 := kal (bl w (.cells #[.int .i64 z, .int .i64 d, .int .i64 s, .int .i64 l, .int .i64 a] 23)) (.cells #[.int .i64 x.gen, .int .i64 x.ep, .int .i64 x.pos, .int .i64 x.seq, .int .i64 x.last, .string x.lab, .slice x.HA x.hs.length x.hc] 26)
  rw [show (w.alloc (.cells #[.int .i64 z, .int .i64 d, .int .i64 s, .int .i64 l, .int .i64 a] 23)).heap.size = w.heap.size + 1 by simp] at FF
  have l1 : w.heap.size + 1 < ((w.alloc (.cells #[.int .i64 z, .int .i64 d, .int .i64 s, .int .i64 l, .int .i64 a] 23)).alloc (.cells #[.int .i64 x.gen, .int .i64 x.ep, .int .i64 x.pos, .int .i64 x.seq, .int .i64 x.last, .string x.lab, .slice x.HA x.hs.length x.hc] 26)).heap.size := by simp
  unfold AV.v at cH
  clear hx hh t1 t2 t3 cA cS cM cK cW
  go_enter Tryd.func3, Tryd.ntmps3
  go_upto_region 1 with fail
  generalize (w.alloc (.cells #[.int .i64 z, .int .i64 d, .int .i64 s, .int .i64 l, .int .i64 a] 23)).alloc (.cells #[.int .i64 x.gen, .int .i64 x.ep, .int .i64 x.pos, .int .i64 x.seq, .int .i64 x.last, .string x.lab, .slice x.HA x.hs.length x.hc] 26) = w0 at *
  obtain ⟨c0, c1, c2, c3, c4, c5, c6⟩ := id FF
  obtain ⟨g0, g1, g2, g3, g4⟩ := id GG
  go_upto_region 3 with (go_at_call 6; (with_reducible refine (cH _ hb0).mono ?_); rintro e wq ⟨rfl, hbq⟩; replace FF := FF.keep hbq (by omega); replace GG := GG.keep hbq (by omega); replace l1 := Nat.lt_of_lt_of_le l1 hbq.size; clear c0 c1 c2 c3 c4 c5 c6 g0 g1 g2 g3 g4; obtain ⟨c0, c1, c2, c3, c4, c5, c6⟩ := id FF; obtain ⟨g0, g1, g2, g3, g4⟩ := id GG; replace hb0 := bt hb0 hbq; clear hbq)
  have XI := Lib.hid (HX.out.next hb0)
  have hT1 := HTW.out _ hb0
  unfold AV.v at hT1
  go_upto_region 4 with (go_at_call 7; (with_reducible refine hT1.mono ?_); rintro e wa ⟨⟨u, heu, hud, huo, -⟩, hba⟩; subst heu)
  have hxa := bl wa (.cells #[.int .i64 u.gen, .int .i64 u.ep, .int .i64 u.pos, .int .i64 u.seq, .int .i64 u.last, .string u.lab, .slice u.HA u.hs.length u.hc] 26)
  have FU := ac_new wa u
  have hza := hba.size
  have UI := Lib.hid (AV.Own.inn (OwnH.below huo hxa))
  replace GG := GG.keep hba (by omega)
  replace FF := FF.keep hba (by omega)
  replace XI := Lib.hid (XI.out.next hba)
  replace GG := GG.keep hxa (by omega)
  replace FF := FF.keep hxa (by omega)
  replace XI := Lib.hid (XI.out.next hxa)
  replace hb0 := bt (bt hb0 hba) hxa
  have la : wa.heap.size < (wa.alloc (.cells #[.int .i64 u.gen, .int .i64 u.ep, .int .i64 u.pos, .int .i64 u.seq, .int .i64 u.last, .string u.lab, .slice u.HA u.hs.length u.hc] 26)).heap.size := by simp
  obtain ⟨gU, hgU⟩ : ∃ g, g = wa.heap.size := ⟨_, rfl⟩
  rw [← hgU] at FU la ⊢
  have k1 : w.heap.size + 1 < gU := by omega
  have HUD := Lib.hid hud
  replace l1 := la
  clear hT1 hba hxa hza huo hgU la hud cH HTW g0 g1 g2 g3 g4 c0 c1 c2 c3 c4 c5 c6
  generalize wa.alloc (.cells #[.int .i64 u.gen, .int .i64 u.ep, .int .i64 u.pos, .int .i64 u.seq, .int .i64 u.last, .string u.lab, .slice u.HA u.hs.length u.hc] 26) = wb at *
  obtain ⟨g0, g1, g2, g3, g4⟩ := id GG
  obtain ⟨u0, u1, u2, u3, u4, u5, u6⟩ := id FU
  have hT1 := HA.out u _ hb0 HUD.out UI.out
  unfold AV.v at hT1
  go_upto_region 5 with (go_at_call 8; (with_reducible refine hT1.mono ?_); rintro e wc ⟨rfl, hba⟩)
  replace GG := GG.keep hba (by omega)
  replace FF := FF.keep hba (by omega)
  replace FU := FU.keep hba (by omega)
  replace XI := Lib.hid (XI.out.next hba)
  replace UI := Lib.hid (UI.out.next hba)
  replace l1 := Nat.lt_of_lt_of_le l1 hba.size
  replace hb0 := bt hb0 hba
  clear hT1 hba HA g0 g1 g2 g3 g4 u0 u1 u2 u3 u4 u5 u6
  obtain ⟨wb, rfl⟩ : ∃ q, q = wc := ⟨wc, rfl⟩
  obtain ⟨g0, g1, g2, g3, g4⟩ := id GG
  obtain ⟨u0, u1, u2, u3, u4, u5, u6⟩ := id FU
  have hT1 := HS.out u _ hb0 HUD.out UI.out
  unfold AV.v at hT1
  go_upto_region 6 with (go_at_call 9; (with_reducible refine hT1.mono ?_); rintro e wc ⟨rfl, hba⟩)
  replace GG := GG.keep hba (by omega)
  replace FF := FF.keep hba (by omega)
  replace FU := FU.keep hba (by omega)
  replace XI := Lib.hid (XI.out.next hba)
  replace UI := Lib.hid (UI.out.next hba)
  replace l1 := Nat.lt_of_lt_of_le l1 hba.size
  replace hb0 := bt hb0 hba
  clear hT1 hba HS g0 g1 g2 g3 g4 u0 u1 u2 u3 u4 u5 u6
  obtain ⟨wb, rfl⟩ : ∃ q, q = wc := ⟨wc, rfl⟩
  obtain ⟨g0, g1, g2, g3, g4⟩ := id GG
  obtain ⟨u0, u1, u2, u3, u4, u5, u6⟩ := id FU
  have hT1 := HM.out u _ hb0 HUD.out UI.out
  unfold AV.v at hT1
  go_upto_region 7 with (go_at_call 10; (with_reducible refine hT1.mono ?_); rintro e wa ⟨⟨m, hem, hmd, hmo, -⟩, hba⟩; rw [AV.v] at hem; subst hem)
  have hxa := bl wa (.cells #[.int .i64 m.gen, .int .i64 m.ep, .int .i64 m.pos, .int .i64 m.seq, .int .i64 m.last, .string m.lab, .slice m.HA m.hs.length m.hc] 26)
  have FM := ac_new wa m
  have hza := hba.size
  have MI := Lib.hid (AV.Own.inn (OwnH.below hmo hxa))
  replace GG := GG.keep hba (by omega)
  replace FF := FF.keep hba (by omega)
  replace FU := FU.keep hba (by omega)
  replace XI := Lib.hid (XI.out.next hba)
  replace UI := Lib.hid (UI.out.next hba)
  replace GG := GG.keep hxa (by omega)
  replace FF := FF.keep hxa (by omega)
  replace FU := FU.keep hxa (by omega)
  replace XI := Lib.hid (XI.out.next hxa)
  replace UI := Lib.hid (UI.out.next hxa)
  replace hb0 := bt (bt hb0 hba) hxa
  have la : wa.heap.size < (wa.alloc (.cells #[.int .i64 m.gen, .int .i64 m.ep, .int .i64 m.pos, .int .i64 m.seq, .int .i64 m.last, .string m.lab, .slice m.HA m.hs.length m.hc] 26)).heap.size := by simp
  obtain ⟨gM, hgB⟩ : ∃ g, g = wa.heap.size := ⟨_, rfl⟩
  rw [← hgB] at FM la ⊢
  have km : gU < gM := by omega
  have HMD := Lib.hid hmd
  replace l1 := la
  clear hT1 hba hxa hza hmo hgB la hmd HM g0 g1 g2 g3 g4 u0 u1 u2 u3 u4 u5 u6
  generalize wa.alloc (.cells #[.int .i64 m.gen, .int .i64 m.ep, .int .i64 m.pos, .int .i64 m.seq, .int .i64 m.last, .string m.lab, .slice m.HA m.hs.length m.hc] 26) = wb at *
  obtain ⟨g0, g1, g2, g3, g4⟩ := id GG
  obtain ⟨u0, u1, u2, u3, u4, u5, u6⟩ := id FU
  have hT1 := HK.out u _ hb0 HUD.out UI.out
  unfold AV.v at hT1
  go_upto_region 8 with (go_at_call 11; (with_reducible refine hT1.mono ?_); rintro e wa ⟨⟨t, het, htd, hto, -⟩, hba⟩; rw [AV.v] at het; subst het)
  have hxa := bl wa (.cells #[.int .i64 t.gen, .int .i64 t.ep, .int .i64 t.pos, .int .i64 t.seq, .int .i64 t.last, .string t.lab, .slice t.HA t.hs.length t.hc] 26)
  have FT := ac_new wa t
  have hza := hba.size
  have TI := Lib.hid (AV.Own.inn (OwnH.below hto hxa))
  replace GG := GG.keep hba (by omega)
  replace FF := FF.keep hba (by omega)
  replace FU := FU.keep hba (by omega)
  replace FM := FM.keep hba (by omega)
  replace XI := Lib.hid (XI.out.next hba)
  replace UI := Lib.hid (UI.out.next hba)
  replace MI := Lib.hid (MI.out.next hba)
  replace GG := GG.keep hxa (by omega)
  replace FF := FF.keep hxa (by omega)
  replace FU := FU.keep hxa (by omega)
  replace FM := FM.keep hxa (by omega)
  replace XI := Lib.hid (XI.out.next hxa)
  replace UI := Lib.hid (UI.out.next hxa)
  replace MI := Lib.hid (MI.out.next hxa)
  replace hb0 := bt (bt hb0 hba) hxa
  have la : wa.heap.size < (wa.alloc (.cells #[.int .i64 t.gen, .int .i64 t.ep, .int .i64 t.pos, .int .i64 t.seq, .int .i64 t.last, .string t.lab, .slice t.HA t.hs.length t.hc] 26)).heap.size := by simp
  obtain ⟨gT, hgB⟩ : ∃ g, g = wa.heap.size := ⟨_, rfl⟩
  rw [← hgB] at FT la ⊢
  have kt : gM < gT := by omega
  have HTD := Lib.hid htd
  replace l1 := la
  clear hT1 hba hxa hza hto hgB la htd HK g0 g1 g2 g3 g4 u0 u1 u2 u3 u4 u5 u6
  generalize wa.alloc (.cells #[.int .i64 t.gen, .int .i64 t.ep, .int .i64 t.pos, .int .i64 t.seq, .int .i64 t.last, .string t.lab, .slice t.HA t.hs.length t.hc] 26) = wb at *
  go_upto_region 9 with fail
  have hxa := bl wb (.cells #[.int .i64 0, .int .i64 0, .int .i64 0, .int .i64 0, .int .i64 0, .string ⟨#[]⟩, .slice none 0 0] 26)
  have FN := sev_new wb (.int .i64 0) (.int .i64 0) (.int .i64 0) (.int .i64 0) (.int .i64 0) (.string ⟨#[]⟩) (.slice none 0 0) 26
  replace GG := GG.keep hxa (by omega)
  replace FF := FF.keep hxa (by omega)
  replace FU := FU.keep hxa (by omega)
  replace FM := FM.keep hxa (by omega)
  replace FT := FT.keep hxa (by omega)
  replace XI := Lib.hid (XI.out.next hxa)
  replace UI := Lib.hid (UI.out.next hxa)
  replace MI := Lib.hid (MI.out.next hxa)
  replace TI := Lib.hid (TI.out.next hxa)
  replace hb0 := bt hb0 hxa
  have la : wb.heap.size < (wb.alloc (.cells #[.int .i64 0, .int .i64 0, .int .i64 0, .int .i64 0, .int .i64 0, .string ⟨#[]⟩, .slice none 0 0] 26)).heap.size := by simp
  obtain ⟨gN, hgN⟩ : ∃ g, g = wb.heap.size := ⟨_, rfl⟩
  rw [← hgN] at FN la l1 ⊢
  replace l1 := And.intro l1 la
  clear hxa la hgN
  generalize wb.alloc (.cells #[.int .i64 0, .int .i64 0, .int .i64 0, .int .i64 0, .int .i64 0, .string ⟨#[]⟩, .slice none 0 0] 26) = wn at *
  obtain ⟨kn, l1⟩ := l1
  obtain ⟨u0, u1, u2, u3, u4, u5, u6⟩ := id FU
  obtain ⟨c0, c1, c2, c3, c4, c5, c6⟩ := id FF
  have hT1 := cmp_yes u x wn UI.out XI.out HUD.out (short_d HUD.out (by rw [show x.d.hs.length = x.hs.length from hds_length _]; exact HSX.out.1) (fun k hk => by
    obtain ⟨r, hr, rfl⟩ := List.mem_map.1 (show k ∈ hds x.hs from hk)
    exact HSX.out.2 r hr))
  unfold AV.v at hT1
  go_upto_region 11 with (go_at_call 12; (with_reducible refine hT1.mono ?_); rintro e wc ⟨rfl, hba⟩)
  replace GG := GG.keep hba (by omega)
  replace FF := FF.keep hba (by omega)
  replace FM := FM.keep hba (by omega)
  replace FT := FT.keep hba (by omega)
  replace FN := FN.keep hba (by omega)
  replace XI := Lib.hid (XI.out.next hba)
  replace MI := Lib.hid (MI.out.next hba)
  replace TI := Lib.hid (TI.out.next hba)
  replace l1 := Nat.lt_of_lt_of_le l1 hba.size
  replace hb0 := bt hb0 hba
  clear hT1 hba FU UI HUD HSX u0 u1 u2 u3 u4 u5 u6 c0 c1 c2 c3 c4 c5 c6
  obtain ⟨wb, rfl⟩ : ∃ q, q = wc := ⟨wc, rfl⟩
  have HMN := Lib.hid (show ∀ W, Below wb.heap.size wb W → Calls Tryd.prog 12 #[.agg #[.int .i64 m.gen, .int .i64 m.ep, .int .i64 m.pos, .int .i64 m.seq, .int .i64 m.last, .string m.lab, .slice m.HA m.hs.length m.hc], .agg #[.int .i64 0, .int .i64 0, .int .i64 0, .int .i64 0, .int .i64 0, .string ⟨#[]⟩, .slice none 0 0]] W fun e w' => e = .returned (.bool true) ∧ Below W.heap.size W w' from fun W hW => cmp_yes m noAV W (MI.out.next hW) (noAV_in W) HMD.out (short_no HMD.out))
  have HTN := Lib.hid (show ∀ W, Below wb.heap.size wb W → Calls Tryd.prog 12 #[.agg #[.int .i64 t.gen, .int .i64 t.ep, .int .i64 t.pos, .int .i64 t.seq, .int .i64 t.last, .string t.lab, .slice t.HA t.hs.length t.hc], .agg #[.int .i64 0, .int .i64 0, .int .i64 0, .int .i64 0, .int .i64 0, .string ⟨#[]⟩, .slice none 0 0]] W fun e w' => e = .returned (.bool true) ∧ Below W.heap.size W w' from fun W hW => cmp_yes t noAV W (TI.out.next hW) (noAV_in W) HTD.out (short_no HTD.out))
  have hbW := Below.refl wb.heap.size wb
  clear HX XI MI TI HMD HTD
  obtain ⟨g0, g1, g2, g3, g4⟩ := id GG
  obtain ⟨c0, c1, c2, c3, c4, c5, c6⟩ := id FF
  obtain ⟨m0, m1, m2, m3, m4, m5, m6⟩ := id FM
  obtain ⟨t0, t1, t2, t3, t4, t5, t6⟩ := id FT
  obtain ⟨n0, n1, n2, n3, n4, n5, n6, -, -, -, -, -, -, -⟩ := id FN
  go_wp2_with (first
    | (go_at_call 13; (with_reducible refine (HG.out _).mono ?_); rintro e wq ⟨rfl, hbq⟩; replace GG := GG.keep hbq (by omega); replace FF := FF.keep hbq (by omega); replace FM := FM.keep hbq (by omega); replace FT := FT.keep hbq (by omega); replace FN := FN.keep hbq (by omega); replace l1 := Nat.lt_of_lt_of_le l1 hbq.size; clear g0 g1 g2 g3 g4 c0 c1 c2 c3 c4 c5 c6 m0 m1 m2 m3 m4 m5 m6 t0 t1 t2 t3 t4 t5 t6 n0 n1 n2 n3 n4 n5 n6; obtain ⟨g0, g1, g2, g3, g4⟩ := id GG; obtain ⟨c0, c1, c2, c3, c4, c5, c6⟩ := id FF; obtain ⟨m0, m1, m2, m3, m4, m5, m6⟩ := id FM; obtain ⟨t0, t1, t2, t3, t4, t5, t6⟩ := id FT; obtain ⟨n0, n1, n2, n3, n4, n5, n6, -, -, -, -, -, -, -⟩ := id FN; replace hbW := bt hbW hbq; replace hb0 := bt hb0 hbq; clear hbq)
    | (go_at_call 12; (with_reducible refine (HMN.out _ hbW).mono ?_); rintro e wq ⟨rfl, hbq⟩; replace GG := GG.keep hbq (by omega); replace FF := FF.keep hbq (by omega); replace FM := FM.keep hbq (by omega); replace FT := FT.keep hbq (by omega); replace FN := FN.keep hbq (by omega); replace l1 := Nat.lt_of_lt_of_le l1 hbq.size; clear g0 g1 g2 g3 g4 c0 c1 c2 c3 c4 c5 c6 m0 m1 m2 m3 m4 m5 m6 t0 t1 t2 t3 t4 t5 t6 n0 n1 n2 n3 n4 n5 n6; obtain ⟨g0, g1, g2, g3, g4⟩ := id GG; obtain ⟨c0, c1, c2, c3, c4, c5, c6⟩ := id FF; obtain ⟨m0, m1, m2, m3, m4, m5, m6⟩ := id FM; obtain ⟨t0, t1, t2, t3, t4, t5, t6⟩ := id FT; obtain ⟨n0, n1, n2, n3, n4, n5, n6, -, -, -, -, -, -, -⟩ := id FN; replace hbW := bt hbW hbq; clear HMN; replace hb0 := bt hb0 hbq; clear hbq)
    | (go_at_call 12; (with_reducible refine (HTN.out _ hbW).mono ?_); rintro e wq ⟨rfl, hbq⟩; replace GG := GG.keep hbq (by omega); replace FF := FF.keep hbq (by omega); replace FM := FM.keep hbq (by omega); replace FT := FT.keep hbq (by omega); replace FN := FN.keep hbq (by omega); replace l1 := Nat.lt_of_lt_of_le l1 hbq.size; clear g0 g1 g2 g3 g4 c0 c1 c2 c3 c4 c5 c6 m0 m1 m2 m3 m4 m5 m6 t0 t1 t2 t3 t4 t5 t6 n0 n1 n2 n3 n4 n5 n6; obtain ⟨g0, g1, g2, g3, g4⟩ := id GG; obtain ⟨c0, c1, c2, c3, c4, c5, c6⟩ := id FF; obtain ⟨m0, m1, m2, m3, m4, m5, m6⟩ := id FM; obtain ⟨t0, t1, t2, t3, t4, t5, t6⟩ := id FT; obtain ⟨n0, n1, n2, n3, n4, n5, n6, -, -, -, -, -, -, -⟩ := id FN; replace hbW := bt hbW hbq; replace hb0 := bt hb0 hbq; clear hbq)
    | (go_at_call 15; (with_reducible refine (HW.out _ hb0).mono ?_); rintro e wz ⟨rfl, hbz⟩))
  go_ret
  exact ⟨rfl, bt hb0 hbz⟩
set_option maxRecDepth 100000 in
set_option maxHeartbeats 8000000 in
theorem pe_bad (z d s l a : Int) (x : AV) (zn wh : Int) (w : World) (hx : x.In w w.heap.size) (hh : ¬ HeavyA x.d) (ho : Ok z d s l a) (hg : ¬ anc.Good z d s l x.d) (cA : ∀ (u : AV) W, Below w.heap.size w W → u.d = x.d → u.In W W.heap.size → Calls Tryd.prog 8 #[.agg #[.int .i64 z, .int .i64 d, .int .i64 s, .int .i64 l, .int .i64 a], u.v, .int .i64 zn, .int .i64 wh] W fun e w' => e = .returned (.tuple #[.int .i64 0, .int .i64 1]) ∧ Below W.heap.size W w') (cS : ∀ (u : AV) W, Below w.heap.size w W → u.d = x.d → u.In W W.heap.size → Calls Tryd.prog 9 #[.agg #[.int .i64 z, .int .i64 d, .int .i64 s, .int .i64 l, .int .i64 a], u.v, .int .i64 zn] W fun e w' => e = .returned (.tuple #[.int .i64 0, .int .i64 1]) ∧ Below W.heap.size W w') (cM : ∀ (u : AV) W, Below w.heap.size w W → u.d = x.d → u.In W W.heap.size → Calls Tryd.prog 10 #[.agg #[.int .i64 z, .int .i64 d, .int .i64 s, .int .i64 l, .int .i64 a], u.v, .int .i64 zn, .int .i64 wh] W fun e w' => AnsM W.heap.size noAnc 0 1 e w' ∧ Below W.heap.size W w') (cK : ∀ (u : AV) W, Below w.heap.size w W → u.d = x.d → u.In W W.heap.size → Calls Tryd.prog 11 #[.agg #[.int .i64 z, .int .i64 d, .int .i64 s, .int .i64 l, .int .i64 a], u.v, .int .i64 zn] W fun e w' => AnsP W.heap.size noAnc 1 e w' ∧ Below W.heap.size W w') (cW : ∀ W, Below w.heap.size w W → Calls Tryd.prog 15 #[] W fun e w' => e = .returned (.bool true) ∧ Below W.heap.size W w') :
    Calls Tryd.prog 3 #[.agg #[.int .i64 z, .int .i64 d, .int .i64 s, .int .i64 l, .int .i64 a], x.v, .int .i64 zn, .int .i64 wh] w fun e w' => e = .returned (.bool true) ∧ Below w.heap.size w w' := by
  obtain ⟨t1, t2, t3⟩ := light hh
  have cH := fun W (hW : Below w.heap.size w W) => heavy_any false x W (hx.next hW) (iff_of_false Bool.false_ne_true hh)
  have HSX := Lib.hid (show x.hs.length ≤ 1048576 ∧ HShort 1048576 x.hs from ⟨by omega, fun r hr => by have := t3 r hr; omega⟩)
  have HTW := Lib.hid (show ∀ W, Below w.heap.size w W → Calls Tryd.prog 7 #[x.v] W fun e w' => (∃ y : AV, e = .returned y.v ∧ y.d = x.d ∧ y.Own w' W.heap.size ∧ Parted y.hs) ∧ Below W.heap.size W w' from fun W hW => twin_parted x W (hx.next hW) (by omega) (fun r hr => by have := t3 r hr; omega))
  have HX := Lib.hid hx
  have HA := Lib.hid cA
  have HS := Lib.hid cS
  have HM := Lib.hid cM
  have HK := Lib.hid cK
  have HW := Lib.hid cW
  have HG := Lib.hid (fun W => gmt.rgeo_at true z d s l a W (iff_of_true rfl ho))
  have HR0 := fun W (hW : Below w.heap.size w W) => right_p z d s l a false x W ho (hx.next hW) (by omega) (fun r hr => by have := t3 r hr; omega) (by omega) (iff_of_false Bool.false_ne_true hg)
  unfold AV.v at HR0
  have HR := Lib.hid HR0
  clear HR0
  clear ho hg
  unfold AV.v
  have GG := (g5_new w z d s l a).keep (bl (w.alloc (.cells #[.int .i64 z, .int .i64 d, .int .i64 s, .int .i64 l, .int .i64 a] 23)) (.cells #[.int .i64 x.gen, .int .i64 x.ep, .int .i64 x.pos, .int .i64 x.seq, .int .i64 x.last, .string x.lab, .slice x.HA x.hs.length x.hc] 26)) (by simp)
  have FF := ac_new (w.alloc (.cells #[.int .i64 z, .int .i64 d, .int .i64 s, .int .i64 l, .int .i64 a] 23)) x
  have hb0 := kal (bl w (.cells #[.int .i64 z, .int .i64 d, .int .i64 s, .int .i64 l, .int .i64 a] 23)) (.cells #[.int .i64 x.gen, .int .i64 x.ep, .int .i64 x.pos, .int .i64 x.seq, .int .i64 x.last, .string x.lab, .slice x.HA x.hs.length x.hc] 26)
  rw [show (w.alloc (.cells #[.int .i64 z, .int .i64 d, .int .i64 s, .int .i64 l, .int .i64 a] 23)).heap.size = w.heap.size + 1 by simp] at FF
  have l1 : w.heap.size + 1 < ((w.alloc (.cells #[.int .i64 z, .int .i64 d, .int .i64 s, .int .i64 l, .int .i64 a] 23)).alloc (.cells #[.int .i64 x.gen, .int .i64 x.ep, .int .i64 x.pos, .int .i64 x.seq, .int .i64 x.last, .string x.lab, .slice x.HA x.hs.length x.hc] 26)).heap.size := by simp
  unfold AV.v at cH
  clear hx hh t1 t2 t3 cA cS cM cK cW
  go_enter Tryd.func3, Tryd.ntmps3
  go_upto_region 1 with fail
  generalize (w.alloc (.cells #[.int .i64 z, .int .i64 d, .int .i64 s, .int .i64 l, .int .i64 a] 23)).alloc (.cells #[.int .i64 x.gen, .int .i64 x.ep, .int .i64 x.pos, .int .i64 x.seq, .int .i64 x.last, .string x.lab, .slice x.HA x.hs.length x.hc] 26) = w0 at *
  obtain ⟨c0, c1, c2, c3, c4, c5, c6⟩ := id FF
  obtain ⟨g0, g1, g2, g3, g4⟩ := id GG
  go_upto_region 3 with (go_at_call 6; (with_reducible refine (cH _ hb0).mono ?_); rintro e wq ⟨rfl, hbq⟩; replace FF := FF.keep hbq (by omega); replace GG := GG.keep hbq (by omega); replace l1 := Nat.lt_of_lt_of_le l1 hbq.size; clear c0 c1 c2 c3 c4 c5 c6 g0 g1 g2 g3 g4; obtain ⟨c0, c1, c2, c3, c4, c5, c6⟩ := id FF; obtain ⟨g0, g1, g2, g3, g4⟩ := id GG; replace hb0 := bt hb0 hbq; clear hbq)
  have XI := Lib.hid (HX.out.next hb0)
  have hT1 := HTW.out _ hb0
  unfold AV.v at hT1
  go_upto_region 4 with (go_at_call 7; (with_reducible refine hT1.mono ?_); rintro e wa ⟨⟨u, heu, hud, huo, -⟩, hba⟩; subst heu)
  have hxa := bl wa (.cells #[.int .i64 u.gen, .int .i64 u.ep, .int .i64 u.pos, .int .i64 u.seq, .int .i64 u.last, .string u.lab, .slice u.HA u.hs.length u.hc] 26)
  have FU := ac_new wa u
  have hza := hba.size
  have UI := Lib.hid (AV.Own.inn (OwnH.below huo hxa))
  replace GG := GG.keep hba (by omega)
  replace FF := FF.keep hba (by omega)
  replace XI := Lib.hid (XI.out.next hba)
  replace GG := GG.keep hxa (by omega)
  replace FF := FF.keep hxa (by omega)
  replace XI := Lib.hid (XI.out.next hxa)
  replace hb0 := bt (bt hb0 hba) hxa
  have la : wa.heap.size < (wa.alloc (.cells #[.int .i64 u.gen, .int .i64 u.ep, .int .i64 u.pos, .int .i64 u.seq, .int .i64 u.last, .string u.lab, .slice u.HA u.hs.length u.hc] 26)).heap.size := by simp
  obtain ⟨gU, hgU⟩ : ∃ g, g = wa.heap.size := ⟨_, rfl⟩
  rw [← hgU] at FU la ⊢
  have k1 : w.heap.size + 1 < gU := by omega
  have HUD := Lib.hid hud
  replace l1 := la
  clear hT1 hba hxa hza huo hgU la hud cH HTW g0 g1 g2 g3 g4 c0 c1 c2 c3 c4 c5 c6
  generalize wa.alloc (.cells #[.int .i64 u.gen, .int .i64 u.ep, .int .i64 u.pos, .int .i64 u.seq, .int .i64 u.last, .string u.lab, .slice u.HA u.hs.length u.hc] 26) = wb at *
  obtain ⟨g0, g1, g2, g3, g4⟩ := id GG
  obtain ⟨u0, u1, u2, u3, u4, u5, u6⟩ := id FU
  have hT1 := HA.out u _ hb0 HUD.out UI.out
  unfold AV.v at hT1
  go_upto_region 5 with (go_at_call 8; (with_reducible refine hT1.mono ?_); rintro e wc ⟨rfl, hba⟩)
  replace GG := GG.keep hba (by omega)
  replace FF := FF.keep hba (by omega)
  replace FU := FU.keep hba (by omega)
  replace XI := Lib.hid (XI.out.next hba)
  replace UI := Lib.hid (UI.out.next hba)
  replace l1 := Nat.lt_of_lt_of_le l1 hba.size
  replace hb0 := bt hb0 hba
  clear hT1 hba HA g0 g1 g2 g3 g4 u0 u1 u2 u3 u4 u5 u6
  obtain ⟨wb, rfl⟩ : ∃ q, q = wc := ⟨wc, rfl⟩
  obtain ⟨g0, g1, g2, g3, g4⟩ := id GG
  obtain ⟨u0, u1, u2, u3, u4, u5, u6⟩ := id FU
  have hT1 := HS.out u _ hb0 HUD.out UI.out
  unfold AV.v at hT1
  go_upto_region 6 with (go_at_call 9; (with_reducible refine hT1.mono ?_); rintro e wc ⟨rfl, hba⟩)
  replace GG := GG.keep hba (by omega)
  replace FF := FF.keep hba (by omega)
  replace FU := FU.keep hba (by omega)
  replace XI := Lib.hid (XI.out.next hba)
  replace UI := Lib.hid (UI.out.next hba)
  replace l1 := Nat.lt_of_lt_of_le l1 hba.size
  replace hb0 := bt hb0 hba
  clear hT1 hba HS g0 g1 g2 g3 g4 u0 u1 u2 u3 u4 u5 u6
  obtain ⟨wb, rfl⟩ : ∃ q, q = wc := ⟨wc, rfl⟩
  obtain ⟨g0, g1, g2, g3, g4⟩ := id GG
  obtain ⟨u0, u1, u2, u3, u4, u5, u6⟩ := id FU
  have hT1 := HM.out u _ hb0 HUD.out UI.out
  unfold AV.v at hT1
  go_upto_region 7 with (go_at_call 10; (with_reducible refine hT1.mono ?_); rintro e wa ⟨⟨m, hem, hmd, hmo, -⟩, hba⟩; rw [AV.v] at hem; subst hem)
  have hxa := bl wa (.cells #[.int .i64 m.gen, .int .i64 m.ep, .int .i64 m.pos, .int .i64 m.seq, .int .i64 m.last, .string m.lab, .slice m.HA m.hs.length m.hc] 26)
  have FM := ac_new wa m
  have hza := hba.size
  have MI := Lib.hid (AV.Own.inn (OwnH.below hmo hxa))
  replace GG := GG.keep hba (by omega)
  replace FF := FF.keep hba (by omega)
  replace FU := FU.keep hba (by omega)
  replace XI := Lib.hid (XI.out.next hba)
  replace UI := Lib.hid (UI.out.next hba)
  replace GG := GG.keep hxa (by omega)
  replace FF := FF.keep hxa (by omega)
  replace FU := FU.keep hxa (by omega)
  replace XI := Lib.hid (XI.out.next hxa)
  replace UI := Lib.hid (UI.out.next hxa)
  replace hb0 := bt (bt hb0 hba) hxa
  have la : wa.heap.size < (wa.alloc (.cells #[.int .i64 m.gen, .int .i64 m.ep, .int .i64 m.pos, .int .i64 m.seq, .int .i64 m.last, .string m.lab, .slice m.HA m.hs.length m.hc] 26)).heap.size := by simp
  obtain ⟨gM, hgB⟩ : ∃ g, g = wa.heap.size := ⟨_, rfl⟩
  rw [← hgB] at FM la ⊢
  have km : gU < gM := by omega
  have HMD := Lib.hid hmd
  replace l1 := la
  clear hT1 hba hxa hza hmo hgB la hmd HM g0 g1 g2 g3 g4 u0 u1 u2 u3 u4 u5 u6
  generalize wa.alloc (.cells #[.int .i64 m.gen, .int .i64 m.ep, .int .i64 m.pos, .int .i64 m.seq, .int .i64 m.last, .string m.lab, .slice m.HA m.hs.length m.hc] 26) = wb at *
  obtain ⟨g0, g1, g2, g3, g4⟩ := id GG
  obtain ⟨u0, u1, u2, u3, u4, u5, u6⟩ := id FU
  have hT1 := HK.out u _ hb0 HUD.out UI.out
  unfold AV.v at hT1
  go_upto_region 8 with (go_at_call 11; (with_reducible refine hT1.mono ?_); rintro e wa ⟨⟨t, het, htd, hto, -⟩, hba⟩; rw [AV.v] at het; subst het)
  have hxa := bl wa (.cells #[.int .i64 t.gen, .int .i64 t.ep, .int .i64 t.pos, .int .i64 t.seq, .int .i64 t.last, .string t.lab, .slice t.HA t.hs.length t.hc] 26)
  have FT := ac_new wa t
  have hza := hba.size
  have TI := Lib.hid (AV.Own.inn (OwnH.below hto hxa))
  replace GG := GG.keep hba (by omega)
  replace FF := FF.keep hba (by omega)
  replace FU := FU.keep hba (by omega)
  replace FM := FM.keep hba (by omega)
  replace XI := Lib.hid (XI.out.next hba)
  replace UI := Lib.hid (UI.out.next hba)
  replace MI := Lib.hid (MI.out.next hba)
  replace GG := GG.keep hxa (by omega)
  replace FF := FF.keep hxa (by omega)
  replace FU := FU.keep hxa (by omega)
  replace FM := FM.keep hxa (by omega)
  replace XI := Lib.hid (XI.out.next hxa)
  replace UI := Lib.hid (UI.out.next hxa)
  replace MI := Lib.hid (MI.out.next hxa)
  replace hb0 := bt (bt hb0 hba) hxa
  have la : wa.heap.size < (wa.alloc (.cells #[.int .i64 t.gen, .int .i64 t.ep, .int .i64 t.pos, .int .i64 t.seq, .int .i64 t.last, .string t.lab, .slice t.HA t.hs.length t.hc] 26)).heap.size := by simp
  obtain ⟨gT, hgB⟩ : ∃ g, g = wa.heap.size := ⟨_, rfl⟩
  rw [← hgB] at FT la ⊢
  have kt : gM < gT := by omega
  have HTD := Lib.hid htd
  replace l1 := la
  clear hT1 hba hxa hza hto hgB la htd HK g0 g1 g2 g3 g4 u0 u1 u2 u3 u4 u5 u6
  generalize wa.alloc (.cells #[.int .i64 t.gen, .int .i64 t.ep, .int .i64 t.pos, .int .i64 t.seq, .int .i64 t.last, .string t.lab, .slice t.HA t.hs.length t.hc] 26) = wb at *
  go_upto_region 9 with fail
  have hxa := bl wb (.cells #[.int .i64 0, .int .i64 0, .int .i64 0, .int .i64 0, .int .i64 0, .string ⟨#[]⟩, .slice none 0 0] 26)
  have FN := sev_new wb (.int .i64 0) (.int .i64 0) (.int .i64 0) (.int .i64 0) (.int .i64 0) (.string ⟨#[]⟩) (.slice none 0 0) 26
  replace GG := GG.keep hxa (by omega)
  replace FF := FF.keep hxa (by omega)
  replace FU := FU.keep hxa (by omega)
  replace FM := FM.keep hxa (by omega)
  replace FT := FT.keep hxa (by omega)
  replace XI := Lib.hid (XI.out.next hxa)
  replace UI := Lib.hid (UI.out.next hxa)
  replace MI := Lib.hid (MI.out.next hxa)
  replace TI := Lib.hid (TI.out.next hxa)
  replace hb0 := bt hb0 hxa
  have la : wb.heap.size < (wb.alloc (.cells #[.int .i64 0, .int .i64 0, .int .i64 0, .int .i64 0, .int .i64 0, .string ⟨#[]⟩, .slice none 0 0] 26)).heap.size := by simp
  obtain ⟨gN, hgN⟩ : ∃ g, g = wb.heap.size := ⟨_, rfl⟩
  rw [← hgN] at FN la l1 ⊢
  replace l1 := And.intro l1 la
  clear hxa la hgN
  generalize wb.alloc (.cells #[.int .i64 0, .int .i64 0, .int .i64 0, .int .i64 0, .int .i64 0, .string ⟨#[]⟩, .slice none 0 0] 26) = wn at *
  obtain ⟨kn, l1⟩ := l1
  obtain ⟨u0, u1, u2, u3, u4, u5, u6⟩ := id FU
  obtain ⟨c0, c1, c2, c3, c4, c5, c6⟩ := id FF
  have hT1 := cmp_yes u x wn UI.out XI.out HUD.out (short_d HUD.out (by rw [show x.d.hs.length = x.hs.length from hds_length _]; exact HSX.out.1) (fun k hk => by
    obtain ⟨r, hr, rfl⟩ := List.mem_map.1 (show k ∈ hds x.hs from hk)
    exact HSX.out.2 r hr))
  unfold AV.v at hT1
  go_upto_region 11 with (go_at_call 12; (with_reducible refine hT1.mono ?_); rintro e wc ⟨rfl, hba⟩)
  replace GG := GG.keep hba (by omega)
  replace FF := FF.keep hba (by omega)
  replace FM := FM.keep hba (by omega)
  replace FT := FT.keep hba (by omega)
  replace FN := FN.keep hba (by omega)
  replace XI := Lib.hid (XI.out.next hba)
  replace MI := Lib.hid (MI.out.next hba)
  replace TI := Lib.hid (TI.out.next hba)
  replace l1 := Nat.lt_of_lt_of_le l1 hba.size
  replace hb0 := bt hb0 hba
  clear hT1 hba FU UI HUD HSX u0 u1 u2 u3 u4 u5 u6 c0 c1 c2 c3 c4 c5 c6
  obtain ⟨wb, rfl⟩ : ∃ q, q = wc := ⟨wc, rfl⟩
  have HMN := Lib.hid (show ∀ W, Below wb.heap.size wb W → Calls Tryd.prog 12 #[.agg #[.int .i64 m.gen, .int .i64 m.ep, .int .i64 m.pos, .int .i64 m.seq, .int .i64 m.last, .string m.lab, .slice m.HA m.hs.length m.hc], .agg #[.int .i64 0, .int .i64 0, .int .i64 0, .int .i64 0, .int .i64 0, .string ⟨#[]⟩, .slice none 0 0]] W fun e w' => e = .returned (.bool true) ∧ Below W.heap.size W w' from fun W hW => cmp_yes m noAV W (MI.out.next hW) (noAV_in W) HMD.out (short_no HMD.out))
  have HTN := Lib.hid (show ∀ W, Below wb.heap.size wb W → Calls Tryd.prog 12 #[.agg #[.int .i64 t.gen, .int .i64 t.ep, .int .i64 t.pos, .int .i64 t.seq, .int .i64 t.last, .string t.lab, .slice t.HA t.hs.length t.hc], .agg #[.int .i64 0, .int .i64 0, .int .i64 0, .int .i64 0, .int .i64 0, .string ⟨#[]⟩, .slice none 0 0]] W fun e w' => e = .returned (.bool true) ∧ Below W.heap.size W w' from fun W hW => cmp_yes t noAV W (TI.out.next hW) (noAV_in W) HTD.out (short_no HTD.out))
  have hbW := Below.refl wb.heap.size wb
  clear HX XI MI TI HMD HTD
  obtain ⟨g0, g1, g2, g3, g4⟩ := id GG
  obtain ⟨c0, c1, c2, c3, c4, c5, c6⟩ := id FF
  obtain ⟨m0, m1, m2, m3, m4, m5, m6⟩ := id FM
  obtain ⟨t0, t1, t2, t3, t4, t5, t6⟩ := id FT
  obtain ⟨n0, n1, n2, n3, n4, n5, n6, -, -, -, -, -, -, -⟩ := id FN
  go_wp2_with (first
    | (go_at_call 13; (with_reducible refine (HG.out _).mono ?_); rintro e wq ⟨rfl, hbq⟩; replace GG := GG.keep hbq (by omega); replace FF := FF.keep hbq (by omega); replace FM := FM.keep hbq (by omega); replace FT := FT.keep hbq (by omega); replace FN := FN.keep hbq (by omega); replace l1 := Nat.lt_of_lt_of_le l1 hbq.size; clear g0 g1 g2 g3 g4 c0 c1 c2 c3 c4 c5 c6 m0 m1 m2 m3 m4 m5 m6 t0 t1 t2 t3 t4 t5 t6 n0 n1 n2 n3 n4 n5 n6; obtain ⟨g0, g1, g2, g3, g4⟩ := id GG; obtain ⟨c0, c1, c2, c3, c4, c5, c6⟩ := id FF; obtain ⟨m0, m1, m2, m3, m4, m5, m6⟩ := id FM; obtain ⟨t0, t1, t2, t3, t4, t5, t6⟩ := id FT; obtain ⟨n0, n1, n2, n3, n4, n5, n6, -, -, -, -, -, -, -⟩ := id FN; replace hbW := bt hbW hbq; replace hb0 := bt hb0 hbq; clear hbq)
    | (go_at_call 14; (with_reducible refine (HR.out _ hb0).mono ?_); rintro e wq ⟨rfl, hbq⟩; replace GG := GG.keep hbq (by omega); replace FF := FF.keep hbq (by omega); replace FM := FM.keep hbq (by omega); replace FT := FT.keep hbq (by omega); replace FN := FN.keep hbq (by omega); replace l1 := Nat.lt_of_lt_of_le l1 hbq.size; clear g0 g1 g2 g3 g4 c0 c1 c2 c3 c4 c5 c6 m0 m1 m2 m3 m4 m5 m6 t0 t1 t2 t3 t4 t5 t6 n0 n1 n2 n3 n4 n5 n6; obtain ⟨g0, g1, g2, g3, g4⟩ := id GG; obtain ⟨c0, c1, c2, c3, c4, c5, c6⟩ := id FF; obtain ⟨m0, m1, m2, m3, m4, m5, m6⟩ := id FM; obtain ⟨t0, t1, t2, t3, t4, t5, t6⟩ := id FT; obtain ⟨n0, n1, n2, n3, n4, n5, n6, -, -, -, -, -, -, -⟩ := id FN; replace hbW := bt hbW hbq; replace hb0 := bt hb0 hbq; clear hbq)
    | (go_at_call 12; (with_reducible refine (HMN.out _ hbW).mono ?_); rintro e wq ⟨rfl, hbq⟩; replace GG := GG.keep hbq (by omega); replace FF := FF.keep hbq (by omega); replace FM := FM.keep hbq (by omega); replace FT := FT.keep hbq (by omega); replace FN := FN.keep hbq (by omega); replace l1 := Nat.lt_of_lt_of_le l1 hbq.size; clear g0 g1 g2 g3 g4 c0 c1 c2 c3 c4 c5 c6 m0 m1 m2 m3 m4 m5 m6 t0 t1 t2 t3 t4 t5 t6 n0 n1 n2 n3 n4 n5 n6; obtain ⟨g0, g1, g2, g3, g4⟩ := id GG; obtain ⟨c0, c1, c2, c3, c4, c5, c6⟩ := id FF; obtain ⟨m0, m1, m2, m3, m4, m5, m6⟩ := id FM; obtain ⟨t0, t1, t2, t3, t4, t5, t6⟩ := id FT; obtain ⟨n0, n1, n2, n3, n4, n5, n6, -, -, -, -, -, -, -⟩ := id FN; replace hbW := bt hbW hbq; clear HMN; replace hb0 := bt hb0 hbq; clear hbq)
    | (go_at_call 12; (with_reducible refine (HTN.out _ hbW).mono ?_); rintro e wq ⟨rfl, hbq⟩; replace GG := GG.keep hbq (by omega); replace FF := FF.keep hbq (by omega); replace FM := FM.keep hbq (by omega); replace FT := FT.keep hbq (by omega); replace FN := FN.keep hbq (by omega); replace l1 := Nat.lt_of_lt_of_le l1 hbq.size; clear g0 g1 g2 g3 g4 c0 c1 c2 c3 c4 c5 c6 m0 m1 m2 m3 m4 m5 m6 t0 t1 t2 t3 t4 t5 t6 n0 n1 n2 n3 n4 n5 n6; obtain ⟨g0, g1, g2, g3, g4⟩ := id GG; obtain ⟨c0, c1, c2, c3, c4, c5, c6⟩ := id FF; obtain ⟨m0, m1, m2, m3, m4, m5, m6⟩ := id FM; obtain ⟨t0, t1, t2, t3, t4, t5, t6⟩ := id FT; obtain ⟨n0, n1, n2, n3, n4, n5, n6, -, -, -, -, -, -, -⟩ := id FN; replace hbW := bt hbW hbq; replace hb0 := bt hb0 hbq; clear hbq)
    | (go_at_call 15; (with_reducible refine (HW.out _ hb0).mono ?_); rintro e wz ⟨rfl, hbz⟩))
  go_ret
  exact ⟨rfl, bt hb0 hbz⟩
end Go.Proofs.YthbjfpgcinmjiaaDoor.plc
