/-
  The law NewestExact, walked (but for what is too long). Conditions: 'Cts'.
-/
import Derived.Test.YtdjleimndolonaaDoorNwLE
import Derived.Test.YtdjleimndolonaaDoorNwLA
namespace Go.Proofs.YtdjleimndolonaaDoor.nwt
open Go.RowKit Go.Lib
open Go.Proofs.YtdjleimndolonaaDoor.gmt (Ok five_new rgeo_at)
open Go.Proofs.YtdjleimndolonaaDoor.anc (bl kal kst ks bm ka Anc noAnc AV noAV noAV_own encA RdQ ac_new AC G5 g5_new sev_new heavy_any HeavyA light right_p anchor_any Sev)
open Go.Proofs.YtdjleimndolonaaDoor.sel (Lies enc enc_length)

theorem short_gds {a b : List GotR} {N : Nat} (h : gds a = gds b) (hs : ∀ r ∈ b, r.l.length ≤ N) : ∀ r ∈ a, r.l.length ≤ N := fun r hr => by
  have h1 : r.d ∈ gds b := by rw [← h]; exact List.mem_map_of_mem hr
  obtain ⟨r', hr', e⟩ := List.mem_map.1 h1
  have h3 : r'.l.length = r.l.length := congrArg (fun x : Int × List UInt8 => x.2.length) e
  have h2 := hs r' hr'
  omega
theorem lies_nx {w w' : World} {X : Option Addr} {x : Nat} {l : List UInt8} (h : Lies w X x l) (hb : Below w.heap.size w w') : Lies w' X x l := ⟨h.1, h.2.1, h.2.2.next hb⟩
theorem zero_any (b : Bool) (y : AV) (W : World) (hy : y.In W W.heap.size) (h1 : y.hs.length ≤ 1048576) (h2 : anc.HShort 1048576 y.hs) (hb : b = true ↔ y.d = noAnc) :
    Calls Tryd.prog 15 #[.agg #[.int .i64 y.gen, .int .i64 y.ep, .int .i64 y.pos, .int .i64 y.seq, .int .i64 y.last, .string y.lab, .slice y.HA y.hs.length y.hc], .agg #[.int .i64 0, .int .i64 0, .int .i64 0, .int .i64 0, .int .i64 0, .string ⟨#[]⟩, .slice none 0 0]] W fun e w' => e = .returned (.bool b) ∧ Below W.heap.size W w' := by
  have h9 := anchor_any y noAV W hy (AV.Own.inn (noAV_own W 0)) h1 h2
  have hd : decide (y.d = noAV.d) = b := by
    rw [anc.noAV_d]
    cases b
    · exact decide_eq_false fun h => Bool.false_ne_true (hb.2 h)
    · exact decide_eq_true (hb.1 rfl)
  rw [hd] at h9
  exact h9
theorem zero_true (y : AV) (W : World) (hy : y.In W W.heap.size) (hd : y.d = noAnc) :
    Calls Tryd.prog 15 #[.agg #[.int .i64 y.gen, .int .i64 y.ep, .int .i64 y.pos, .int .i64 y.seq, .int .i64 y.last, .string y.lab, .slice y.HA y.hs.length y.hc], .agg #[.int .i64 0, .int .i64 0, .int .i64 0, .int .i64 0, .int .i64 0, .string ⟨#[]⟩, .slice none 0 0]] W fun e w' => e = .returned (.bool true) ∧ Below W.heap.size W w' := by
  have hn : y.hs = [] := List.map_eq_nil_iff.1 (congrArg Anc.hs hd)
  exact zero_any true y W hy (by rw [hn]; decide) (fun r hr => by rw [hn] at hr; cases hr) (iff_of_true rfl hd)
theorem say_short {z d s l a e addr : Int} {bs : List UInt8} {T : Option Anc} (ho : Ok z d s l a) (hT : T = sayO z d s l e bs addr) : (T.getD noAnc).hs.length ≤ 1048576 ∧ ∀ h ∈ (T.getD noAnc).hs, h.ps.length ≤ 1048576 := by
  cases T with
  | none => exact ⟨by decide, fun h hh => by cases hh⟩
  | some Y =>
    obtain ⟨-, -, -, hg, -⟩ := sayO_says hT.symm
    obtain ⟨-, -, -, -, -, -, -, h8, h9⟩ := hg
    obtain ⟨o1, o2, -⟩ := ho
    refine ⟨by show Y.hs.length ≤ 1048576; omega, fun h hh => ?_⟩
    have := (h9 h hh).1
    omega
theorem an_same (y t : AV) (D : Anc) (W : World) (hy : y.In W W.heap.size) (ht : t.In W W.heap.size) (hyd : y.d = D) (htd : t.d = D) (hs : D.hs.length ≤ 1048576 ∧ ∀ h ∈ D.hs, h.ps.length ≤ 1048576) :
    Calls Tryd.prog 15 #[.agg #[.int .i64 y.gen, .int .i64 y.ep, .int .i64 y.pos, .int .i64 y.seq, .int .i64 y.last, .string y.lab, .slice y.HA y.hs.length y.hc], .agg #[.int .i64 t.gen, .int .i64 t.ep, .int .i64 t.pos, .int .i64 t.seq, .int .i64 t.last, .string t.lab, .slice t.HA t.hs.length t.hc]] W fun e w' => e = .returned (.bool true) ∧ Below W.heap.size W w' := by
  have h1 : y.hs.length = D.hs.length := by rw [← hyd]; exact (anc.hds_length y.hs).symm
  have h9 := anchor_any y t W hy ht (by have := hs.1; omega) (fun r hr => hs.2 r.d (by rw [← hyd]; exact List.mem_map_of_mem hr))
  rw [decide_eq_true (hyd.trans htd.symm)] at h9
  exact h9
set_option maxRecDepth 100000 in
set_option maxHeartbeats 8000000 in
theorem ne_good (z d s l a : Int) (A : Option Addr) (n c : Nat) (rs : List GotR) (e : Int) (X : Option Addr) (q y : Nat) (bs : List UInt8) (addr : Int) (x : AV) (i : Int) (w : World) (hn : rs.length = n) (hA : SlV w w.heap.size A (gvs rs)) (hR : GIn w w.heap.size rs) (hq : bs.length = q) (hqy : q ≤ y) (hy : y ≤ maxLen) (hX : Sl w w.heap.size X bs) (hx : x.In w w.heap.size) (hc : Cts w) (hh1 : ¬ HeavyG (gds rs)) (hh2 : ¬ HeavyG [(e, bs)]) (hh3 : ¬ HeavyA x.d) :
    Calls Tryd.prog 3 #[.agg #[.int .i64 z, .int .i64 d, .int .i64 s, .int .i64 l, .int .i64 a], .slice A n c, .agg #[.int .i64 e, .slice X q y], .int .i64 addr, x.v, .int .i64 i] w fun e w' => e = .returned (.bool true) ∧ Below w.heap.size w w' := by
  have cH := fun W (hW : Below w.heap.size w W) => heavy_row false A n c rs w W hW hn hA hR (iff_of_false Bool.false_ne_true hh1)
  have cO := fun W (hW : Below w.heap.size w W) => heavy_one false e X q y bs w W hW hq hqy hy hX (iff_of_false Bool.false_ne_true hh2)
  have cX := fun W (hW : Below w.heap.size w W) => heavy_any false x W (hx.next hW) (iff_of_false Bool.false_ne_true hh3)
  unfold AV.v at cX
  have HC := Lib.hid hc
  unfold AV.v
  have GG := ((g5_new w z d s l a).keep (bl (w.alloc (.cells #[.int .i64 z, .int .i64 d, .int .i64 s, .int .i64 l, .int .i64 a] 23)) (.cells #[.int .i64 e, .slice X q y] 28)) (by simp)).keep (bl ((w.alloc (.cells #[.int .i64 z, .int .i64 d, .int .i64 s, .int .i64 l, .int .i64 a] 23)).alloc (.cells #[.int .i64 e, .slice X q y] 28)) (.cells #[.int .i64 x.gen, .int .i64 x.ep, .int .i64 x.pos, .int .i64 x.seq, .int .i64 x.last, .string x.lab, .slice x.HA x.hs.length x.hc] 31)) (by simp; omega)
  have XX := (gotC_new (w.alloc (.cells #[.int .i64 z, .int .i64 d, .int .i64 s, .int .i64 l, .int .i64 a] 23)) (.int .i64 e) (.slice X q y) 28).keep (bl ((w.alloc (.cells #[.int .i64 z, .int .i64 d, .int .i64 s, .int .i64 l, .int .i64 a] 23)).alloc (.cells #[.int .i64 e, .slice X q y] 28)) (.cells #[.int .i64 x.gen, .int .i64 x.ep, .int .i64 x.pos, .int .i64 x.seq, .int .i64 x.last, .string x.lab, .slice x.HA x.hs.length x.hc] 31)) (by simp)
  have FF := ac_new ((w.alloc (.cells #[.int .i64 z, .int .i64 d, .int .i64 s, .int .i64 l, .int .i64 a] 23)).alloc (.cells #[.int .i64 e, .slice X q y] 28)) x
  have hb0 := kal (kal (bl w (.cells #[.int .i64 z, .int .i64 d, .int .i64 s, .int .i64 l, .int .i64 a] 23)) (.cells #[.int .i64 e, .slice X q y] 28)) (.cells #[.int .i64 x.gen, .int .i64 x.ep, .int .i64 x.pos, .int .i64 x.seq, .int .i64 x.last, .string x.lab, .slice x.HA x.hs.length x.hc] 31)
  rw [show (w.alloc (.cells #[.int .i64 z, .int .i64 d, .int .i64 s, .int .i64 l, .int .i64 a] 23)).heap.size = w.heap.size + 1 by simp] at XX
  rw [show ((w.alloc (.cells #[.int .i64 z, .int .i64 d, .int .i64 s, .int .i64 l, .int .i64 a] 23)).alloc (.cells #[.int .i64 e, .slice X q y] 28)).heap.size = w.heap.size + 2 by simp] at FF
  have l1 : w.heap.size + 2 < (((w.alloc (.cells #[.int .i64 z, .int .i64 d, .int .i64 s, .int .i64 l, .int .i64 a] 23)).alloc (.cells #[.int .i64 e, .slice X q y] 28)).alloc (.cells #[.int .i64 x.gen, .int .i64 x.ep, .int .i64 x.pos, .int .i64 x.seq, .int .i64 x.last, .string x.lab, .slice x.HA x.hs.length x.hc] 31)).heap.size := by simp
  have HA := Lib.hid hA
  have HR := Lib.hid hR
  have HXS := Lib.hid hX
  have HX := Lib.hid hx
  clear hA hR hX hx hc
  go_enter Tryd.func3, Tryd.ntmps3
  go_upto_region 1 with fail
  generalize (((w.alloc (.cells #[.int .i64 z, .int .i64 d, .int .i64 s, .int .i64 l, .int .i64 a] 23)).alloc (.cells #[.int .i64 e, .slice X q y] 28)).alloc (.cells #[.int .i64 x.gen, .int .i64 x.ep, .int .i64 x.pos, .int .i64 x.seq, .int .i64 x.last, .string x.lab, .slice x.HA x.hs.length x.hc] 31)) = w0 at *
  obtain ⟨c0, c1, c2, c3, c4, c5, c6⟩ := id FF
  obtain ⟨g0, g1, g2, g3, g4⟩ := id GG
  obtain ⟨x0, x1, -, -⟩ := id XX
  go_upto_region 3 with (first
    | (go_at_call 7; (with_reducible refine (cH _ hb0).mono ?_); rintro e wq ⟨rfl, hbq⟩; replace FF := FF.keep hbq (by omega); replace GG := GG.keep hbq (by omega); replace XX := XX.keep hbq (by omega); replace l1 := Nat.lt_of_lt_of_le l1 hbq.size; clear c0 c1 c2 c3 c4 c5 c6 g0 g1 g2 g3 g4 x0 x1; obtain ⟨c0, c1, c2, c3, c4, c5, c6⟩ := id FF; obtain ⟨g0, g1, g2, g3, g4⟩ := id GG; obtain ⟨x0, x1, -, -⟩ := id XX; replace hb0 := bt hb0 hbq; clear hbq)
    | (go_at_call 7; (with_reducible refine (cO _ hb0).mono ?_); rintro e wq ⟨rfl, hbq⟩; replace FF := FF.keep hbq (by omega); replace GG := GG.keep hbq (by omega); replace XX := XX.keep hbq (by omega); replace l1 := Nat.lt_of_lt_of_le l1 hbq.size; clear c0 c1 c2 c3 c4 c5 c6 g0 g1 g2 g3 g4 x0 x1; obtain ⟨c0, c1, c2, c3, c4, c5, c6⟩ := id FF; obtain ⟨g0, g1, g2, g3, g4⟩ := id GG; obtain ⟨x0, x1, -, -⟩ := id XX; replace hb0 := bt hb0 hbq; clear hbq)
    | (go_at_call 8; (with_reducible refine (cX _ hb0).mono ?_); rintro e wq ⟨rfl, hbq⟩; replace FF := FF.keep hbq (by omega); replace GG := GG.keep hbq (by omega); replace XX := XX.keep hbq (by omega); replace l1 := Nat.lt_of_lt_of_le l1 hbq.size; clear c0 c1 c2 c3 c4 c5 c6 g0 g1 g2 g3 g4 x0 x1; obtain ⟨c0, c1, c2, c3, c4, c5, c6⟩ := id FF; obtain ⟨g0, g1, g2, g3, g4⟩ := id GG; obtain ⟨x0, x1, -, -⟩ := id XX; replace hb0 := bt hb0 hbq; clear hbq))
  clear cH cO cX
  obtain ⟨w3, rfl⟩ : ∃ v, v = wq := ⟨wq, rfl⟩
  obtain ⟨hn8, hl3⟩ := lightG hh1
  have HT := Lib.hid (twin_gots A c n rs w3 hn (HA.out.next hb0) (HR.out.next hb0) (by omega) (fun r hr => by have := hl3 r hr; omega))
  obtain ⟨t1, t2, t3⟩ := light hh3
  clear hh1 hh2 hh3
  go_upto_region 4 with (go_at_call 9; (with_reducible refine HT.out.mono ?_); rintro e' w4 ⟨⟨gv, rfl, hgd, hgo⟩, hb4⟩; replace FF := FF.keep hb4 (by omega); replace GG := GG.keep hb4 (by omega); replace XX := XX.keep hb4 (by omega); replace l1 := Nat.lt_of_lt_of_le l1 hb4.size; clear c0 c1 c2 c3 c4 c5 c6 g0 g1 g2 g3 g4 x0 x1; obtain ⟨c0, c1, c2, c3, c4, c5, c6⟩ := id FF; obtain ⟨g0, g1, g2, g3, g4⟩ := id GG; obtain ⟨x0, x1, -, -⟩ := id XX; replace hb0 := bt hb0 hb4)
  have hgn : gv.rs.length = n := by
    have := congrArg List.length hgd
    rw [gds_length, gds_length] at this
    omega
  have HGI := Lib.hid (GV.Own.inn hgo)
  obtain ⟨S, ok, HS, HSO, HSN⟩ := says_ex z d s l a e addr X q y bs w HC.out hq hqy hy HXS.out
  obtain ⟨P, pi, pe, HP, HPN, HPL, HPO⟩ := pick_ex z d s l a gv n w w4 HC.out hb0 hgn HGI.out
  obtain ⟨cq, cl, ce, HCE, HCO, HCN⟩ := cell_ex z d s l a i x w HC.out HX.out (by omega)
  rw [hgd] at HPO
  have HGD := Lib.hid hgd
  have HV := Lib.hid (And.intro HSO (And.intro HSN (And.intro HPN (And.intro HPL (And.intro HPO (And.intro HCO HCN))))))
  have HSH := Lib.hid HS
  have HPH := Lib.hid HP
  have HCH := Lib.hid HCE
  have hb44 := Below.refl w4.heap.size w4
  clear hgd hgo HSO HSN HPN HPL HPO HCO HCN HS HP HCE HT hb4
  unfold GV.v at HPH ⊢
  unfold AV.v at HCH
  have HGN := Lib.hid hgn
  have HN := Lib.hid hn
  rw [hgn] at HPH ⊢
  clear hgn hn
  go_upto_region 5 with (go_at_call 10; (with_reducible refine (HSH.out _ hb0).mono ?_); rintro e' w5 ⟨⟨sv, he5, hsd, hso⟩, hb5⟩; rw [AV.v] at he5; subst he5)
  have hx5 := bl w5 (.cells #[.int .i64 sv.gen, .int .i64 sv.ep, .int .i64 sv.pos, .int .i64 sv.seq, .int .i64 sv.last, .string sv.lab, .slice sv.HA sv.hs.length sv.hc] 31)
  have FS := ac_new w5 sv
  have b45 := bt hb5 hx5
  replace FF := FF.keep b45 (by omega); replace GG := GG.keep b45 (by omega); replace XX := XX.keep b45 (by omega); replace l1 := Nat.lt_of_lt_of_le l1 b45.size; clear c0 c1 c2 c3 c4 c5 c6 g0 g1 g2 g3 g4 x0 x1; obtain ⟨c0, c1, c2, c3, c4, c5, c6⟩ := id FF; obtain ⟨g0, g1, g2, g3, g4⟩ := id GG; obtain ⟨x0, x1, -, -⟩ := id XX; replace hb0 := bt hb0 b45
  replace hb44 := bt hb44 b45
  have HSI := Lib.hid ((AV.Own.inn hso).next hx5)
  have HSD := Lib.hid hsd
  obtain ⟨gS, hgS⟩ : ∃ g, g = w5.heap.size := ⟨_, rfl⟩
  have lS : gS < (w5.alloc (.cells #[.int .i64 sv.gen, .int .i64 sv.ep, .int .i64 sv.pos, .int .i64 sv.seq, .int .i64 sv.last, .string sv.lab, .slice sv.HA sv.hs.length sv.hc] 31)).heap.size := by rw [hgS]; simp
  rw [← hgS] at FS ⊢
  clear hb5 hx5 b45 hso hsd hgS HSH
  generalize w5.alloc (.cells #[.int .i64 sv.gen, .int .i64 sv.ep, .int .i64 sv.pos, .int .i64 sv.seq, .int .i64 sv.last, .string sv.lab, .slice sv.HA sv.hs.length sv.hc] 31) = w6 at *
  go_upto_region 6 with (go_at_call 11; (with_reducible refine (HPH.out _ hb44).mono ?_); rintro e' w7 ⟨⟨pv, he7, hpd, hpo⟩, hb7⟩; rw [AV.v] at he7; subst he7)
  have hx7 := bl w7 (.cells #[.int .i64 pv.gen, .int .i64 pv.ep, .int .i64 pv.pos, .int .i64 pv.seq, .int .i64 pv.last, .string pv.lab, .slice pv.HA pv.hs.length pv.hc] 31)
  have FP := ac_new w7 pv
  have b67 := bt hb7 hx7
  replace FF := FF.keep b67 (by omega); replace GG := GG.keep b67 (by omega); replace XX := XX.keep b67 (by omega); replace l1 := Nat.lt_of_lt_of_le l1 b67.size; clear c0 c1 c2 c3 c4 c5 c6 g0 g1 g2 g3 g4 x0 x1; obtain ⟨c0, c1, c2, c3, c4, c5, c6⟩ := id FF; obtain ⟨g0, g1, g2, g3, g4⟩ := id GG; obtain ⟨x0, x1, -, -⟩ := id XX; replace hb0 := bt hb0 b67
  replace hb44 := bt hb44 b67
  replace FS := FS.keep b67 lS
  replace lS := Nat.lt_of_lt_of_le lS b67.size
  have HSI2 := Lib.hid (HSI.out.next b67)
  have HPI := Lib.hid ((AV.Own.inn hpo).next hx7)
  have HPD := Lib.hid hpd
  obtain ⟨gP, hgP⟩ : ∃ g, g = w7.heap.size := ⟨_, rfl⟩
  have lP : gP < (w7.alloc (.cells #[.int .i64 pv.gen, .int .i64 pv.ep, .int .i64 pv.pos, .int .i64 pv.seq, .int .i64 pv.last, .string pv.lab, .slice pv.HA pv.hs.length pv.hc] 31)).heap.size := by rw [hgP]; simp
  rw [← hgP] at FP ⊢
  clear hb7 hx7 b67 hpo hpd hgP HPH HSI
  generalize w7.alloc (.cells #[.int .i64 pv.gen, .int .i64 pv.ep, .int .i64 pv.pos, .int .i64 pv.seq, .int .i64 pv.last, .string pv.lab, .slice pv.HA pv.hs.length pv.hc] 31) = w8 at *
  go_upto_region 7 with (go_at_call 12; (with_reducible refine (HCH.out _ hb0).mono ?_); rintro e' w9 ⟨⟨Z, zv, rfl, hzl⟩, hb9⟩; replace FF := FF.keep hb9 (by omega); replace GG := GG.keep hb9 (by omega); replace XX := XX.keep hb9 (by omega); replace l1 := Nat.lt_of_lt_of_le l1 hb9.size; clear c0 c1 c2 c3 c4 c5 c6 g0 g1 g2 g3 g4 x0 x1; obtain ⟨c0, c1, c2, c3, c4, c5, c6⟩ := id FF; obtain ⟨g0, g1, g2, g3, g4⟩ := id GG; obtain ⟨x0, x1, -, -⟩ := id XX; replace hb0 := bt hb0 hb9)
  replace hb44 := bt hb44 hb9
  replace FS := FS.keep hb9 lS
  replace lS := Nat.lt_of_lt_of_le lS hb9.size
  replace FP := FP.keep hb9 lP
  replace lP := Nat.lt_of_lt_of_le lP hb9.size
  have HSI3 := Lib.hid (HSI2.out.next hb9)
  have HPI3 := Lib.hid (HPI.out.next hb9)
  clear HSI2 HPI hb9 HCH
  go_upto_region 8 with fail
  have hx9 := bl w9 (.cells #[.int .i64 0, .int .i64 0, .int .i64 0, .int .i64 0, .int .i64 0, .string ⟨#[]⟩, .slice none 0 0] 31)
  have FZ := zer_new w9
  replace FF := FF.keep hx9 (by omega); replace GG := GG.keep hx9 (by omega); replace XX := XX.keep hx9 (by omega); replace l1 := Nat.lt_of_lt_of_le l1 hx9.size; clear c0 c1 c2 c3 c4 c5 c6 g0 g1 g2 g3 g4 x0 x1; obtain ⟨c0, c1, c2, c3, c4, c5, c6⟩ := id FF; obtain ⟨g0, g1, g2, g3, g4⟩ := id GG; obtain ⟨x0, x1, -, -⟩ := id XX; replace hb0 := bt hb0 hx9
  replace hb44 := bt hb44 hx9
  replace FS := FS.keep hx9 lS
  replace lS := Nat.lt_of_lt_of_le lS hx9.size
  replace FP := FP.keep hx9 lP
  replace lP := Nat.lt_of_lt_of_le lP hx9.size
  have HSI4 := Lib.hid (HSI3.out.next hx9)
  have HPI4 := Lib.hid (HPI3.out.next hx9)
  have HZL := Lib.hid (show ce = 0 → Lies (w9.alloc (.cells #[.int .i64 0, .int .i64 0, .int .i64 0, .int .i64 0, .int .i64 0, .string ⟨#[]⟩, .slice none 0 0] 31)) Z zv cl from fun h => lies_al (hzl h) _)
  obtain ⟨gZ, hgZ⟩ : ∃ g, g = w9.heap.size := ⟨_, rfl⟩
  have lZ : gZ < (w9.alloc (.cells #[.int .i64 0, .int .i64 0, .int .i64 0, .int .i64 0, .int .i64 0, .string ⟨#[]⟩, .slice none 0 0] 31)).heap.size := by rw [hgZ]; simp
  rw [← hgZ] at FZ ⊢
  clear hx9 hgZ hzl HSI3 HPI3
  generalize w9.alloc (.cells #[.int .i64 0, .int .i64 0, .int .i64 0, .int .i64 0, .int .i64 0, .string ⟨#[]⟩, .slice none 0 0] 31) = w10 at *
  have HKG := Lib.hid (show Calls Tryd.prog 13 #[.slice gv.A n gv.c, .slice A n c] w10 fun e' w' => e' = .returned (.bool true) ∧ Below w10.heap.size w10 w' from by
    have h9 := gots_any gv.A A gv.c c n n gv.rs rs w10 HGN.out HN.out (HGI.out.h.next hb44) (HA.out.next hb0) (HGI.out.i.next hb44) (HR.out.next hb0) (by have := HN.out; omega) (fun r hr => by have := short_gds HGD.out hl3 r hr; omega)
    rw [decide_eq_true HGD.out] at h9
    exact h9)
  go_upto_region 10 with (go_at_call 13; (with_reducible refine HKG.out.mono ?_); rintro e' w11 ⟨rfl, hb11⟩; replace FF := FF.keep hb11 (by omega); replace GG := GG.keep hb11 (by omega); replace XX := XX.keep hb11 (by omega); replace l1 := Nat.lt_of_lt_of_le l1 hb11.size; clear c0 c1 c2 c3 c4 c5 c6 g0 g1 g2 g3 g4 x0 x1; obtain ⟨c0, c1, c2, c3, c4, c5, c6⟩ := id FF; obtain ⟨g0, g1, g2, g3, g4⟩ := id GG; obtain ⟨x0, x1, -, -⟩ := id XX; replace hb0 := bt hb0 hb11)
  replace FS := FS.keep hb11 lS
  replace lS := Nat.lt_of_lt_of_le lS hb11.size
  replace FP := FP.keep hb11 lP
  replace lP := Nat.lt_of_lt_of_le lP hb11.size
  replace FZ := Sev.keep FZ hb11 lZ
  replace lZ := Nat.lt_of_lt_of_le lZ hb11.size
  have HSI5 := Lib.hid (HSI4.out.next hb11)
  have HPI5 := Lib.hid (HPI4.out.next hb11)
  have HZL2 := Lib.hid (show ce = 0 → Lies w11 Z zv cl from fun h => ⟨(HZL.out h).1, (HZL.out h).2.1, (HZL.out h).2.2.next hb11⟩)
  have HWK := Lib.hid (show ∀ W, Below w.heap.size w W → Calls Tryd.prog 16 #[] W fun e w' => e = .returned (.bool true) ∧ Below W.heap.size W w' from fun W hW => wk_new W (HC.out.next hW))
  clear hb44 hb11 HKG HSI4 HPI4 HZL
  obtain ⟨s0, s1, s2, s3, s4, s5, s6⟩ := id FS
  obtain ⟨p0, p1, p2, p3, p4, p5, p6⟩ := id FP
  obtain ⟨z0, z1, z2, z3, z4, z5, z6, -, -, -, -, -, -, -⟩ := id FZ
  have hb12 := Below.refl w11.heap.size w11
  by_cases ho : Ok z d s l a
  case neg =>
    obtain ⟨-, v1, v2, -, -, -, v3⟩ := HV.out
    obtain ⟨rfl, rfl⟩ := v1 ho
    obtain ⟨rfl, rfl, rfl⟩ := v2 ho
    obtain ⟨rfl, rfl⟩ := v3 (fun h => ho h.1)
    have cG := fun W => rgeo_at false z d s l a W (iff_of_false Bool.false_ne_true ho)
    have HZS := Lib.hid (fun W (hW : Below w11.heap.size w11 W) => zero_true sv W (HSI5.out.next hW) HSD.out)
    have HZP := Lib.hid (fun W (hW : Below w11.heap.size w11 W) => zero_true pv W (HPI5.out.next hW) HPD.out)
    clear v1 v2 v3 ho HV
    go_wp2_with (first
      | (go_at_call 14; (with_reducible refine (cG _).mono ?_); rintro e' wq ⟨rfl, hbq⟩; replace FF := FF.keep hbq (by omega); replace GG := GG.keep hbq (by omega); replace XX := XX.keep hbq (by omega); replace l1 := Nat.lt_of_lt_of_le l1 hbq.size; clear c0 c1 c2 c3 c4 c5 c6 g0 g1 g2 g3 g4 x0 x1; obtain ⟨c0, c1, c2, c3, c4, c5, c6⟩ := id FF; obtain ⟨g0, g1, g2, g3, g4⟩ := id GG; obtain ⟨x0, x1, -, -⟩ := id XX; replace hb0 := bt hb0 hbq; replace FS := FS.keep hbq lS; replace lS := Nat.lt_of_lt_of_le lS hbq.size; replace FP := FP.keep hbq lP; replace lP := Nat.lt_of_lt_of_le lP hbq.size; replace FZ := Sev.keep FZ hbq lZ; replace lZ := Nat.lt_of_lt_of_le lZ hbq.size; replace hb12 := bt hb12 hbq; clear s0 s1 s2 s3 s4 s5 s6 p0 p1 p2 p3 p4 p5 p6 z0 z1 z2 z3 z4 z5 z6 hbq; obtain ⟨s0, s1, s2, s3, s4, s5, s6⟩ := id FS; obtain ⟨p0, p1, p2, p3, p4, p5, p6⟩ := id FP; obtain ⟨z0, z1, z2, z3, z4, z5, z6, -, -, -, -, -, -, -⟩ := id FZ)
      | (go_at_call 15; (with_reducible refine (HZS.out _ hb12).mono ?_); rintro e' wq ⟨rfl, hbq⟩; replace FF := FF.keep hbq (by omega); replace GG := GG.keep hbq (by omega); replace XX := XX.keep hbq (by omega); replace l1 := Nat.lt_of_lt_of_le l1 hbq.size; clear c0 c1 c2 c3 c4 c5 c6 g0 g1 g2 g3 g4 x0 x1; obtain ⟨c0, c1, c2, c3, c4, c5, c6⟩ := id FF; obtain ⟨g0, g1, g2, g3, g4⟩ := id GG; obtain ⟨x0, x1, -, -⟩ := id XX; replace hb0 := bt hb0 hbq; replace FS := FS.keep hbq lS; replace lS := Nat.lt_of_lt_of_le lS hbq.size; replace FP := FP.keep hbq lP; replace lP := Nat.lt_of_lt_of_le lP hbq.size; replace FZ := Sev.keep FZ hbq lZ; replace lZ := Nat.lt_of_lt_of_le lZ hbq.size; replace hb12 := bt hb12 hbq; clear s0 s1 s2 s3 s4 s5 s6 p0 p1 p2 p3 p4 p5 p6 z0 z1 z2 z3 z4 z5 z6 hbq; obtain ⟨s0, s1, s2, s3, s4, s5, s6⟩ := id FS; obtain ⟨p0, p1, p2, p3, p4, p5, p6⟩ := id FP; obtain ⟨z0, z1, z2, z3, z4, z5, z6, -, -, -, -, -, -, -⟩ := id FZ)
      | (go_at_call 15; (with_reducible refine (HZP.out _ hb12).mono ?_); rintro e' wq ⟨rfl, hbq⟩; replace FF := FF.keep hbq (by omega); replace GG := GG.keep hbq (by omega); replace XX := XX.keep hbq (by omega); replace l1 := Nat.lt_of_lt_of_le l1 hbq.size; clear c0 c1 c2 c3 c4 c5 c6 g0 g1 g2 g3 g4 x0 x1; obtain ⟨c0, c1, c2, c3, c4, c5, c6⟩ := id FF; obtain ⟨g0, g1, g2, g3, g4⟩ := id GG; obtain ⟨x0, x1, -, -⟩ := id XX; replace hb0 := bt hb0 hbq; replace FS := FS.keep hbq lS; replace lS := Nat.lt_of_lt_of_le lS hbq.size; replace FP := FP.keep hbq lP; replace lP := Nat.lt_of_lt_of_le lP hbq.size; replace FZ := Sev.keep FZ hbq lZ; replace lZ := Nat.lt_of_lt_of_le lZ hbq.size; replace hb12 := bt hb12 hbq; clear s0 s1 s2 s3 s4 s5 s6 p0 p1 p2 p3 p4 p5 p6 z0 z1 z2 z3 z4 z5 z6 hbq; obtain ⟨s0, s1, s2, s3, s4, s5, s6⟩ := id FS; obtain ⟨p0, p1, p2, p3, p4, p5, p6⟩ := id FP; obtain ⟨z0, z1, z2, z3, z4, z5, z6, -, -, -, -, -, -, -⟩ := id FZ)
      | (go_at_call 16; (with_reducible refine (HWK.out _ hb0).mono ?_); rintro e' wz ⟨rfl, hbz⟩))
    go_ret
    exact ⟨rfl, bt hb0 hbz⟩
  case pos =>
    obtain ⟨v0, -, -, v4, v5, v6, v7⟩ := HV.out
    obtain ⟨hS, hok⟩ := v0 ho
    obtain ⟨T, hT⟩ : ∃ T, T = sayO z d s l e bs addr := ⟨_, rfl⟩
    rw [← hT] at hS hok
    subst hS hok
    have HO := Lib.hid ho
    have cG := fun W => rgeo_at true z d s l a W (iff_of_true rfl ho)
    have HRS := Lib.hid (show ∀ W, Below w.heap.size w W → Calls Tryd.prog 17 #[.agg #[.int .i64 z, .int .i64 d, .int .i64 s, .int .i64 l, .int .i64 a], .agg #[.int .i64 e, .slice X q y], .int .i64 addr] W fun e' w' => RdQ W.heap.size (T.getD noAnc) T.isSome e' w' ∧ Below W.heap.size W w' from fun W hW => by
      have h9 := rsays_any z d s l a e addr X q y bs W ho hq hqy (HXS.out.next hW)
      rwa [← hT] at h9)
    have HTS := Lib.hid (say_short ho hT)
    have HTT := Lib.hid hT
    have HV2 := Lib.hid (And.intro v4 (And.intro v5 (And.intro v6 v7)))
    clear v0 v4 v5 v6 v7 hT ho HV
    go_upto_region 13 with (first
      | (go_at_call 14; (with_reducible refine (cG _).mono ?_); rintro e' wq ⟨rfl, hbq⟩; replace FF := FF.keep hbq (by omega); replace GG := GG.keep hbq (by omega); replace XX := XX.keep hbq (by omega); replace l1 := Nat.lt_of_lt_of_le l1 hbq.size; clear c0 c1 c2 c3 c4 c5 c6 g0 g1 g2 g3 g4 x0 x1; obtain ⟨c0, c1, c2, c3, c4, c5, c6⟩ := id FF; obtain ⟨g0, g1, g2, g3, g4⟩ := id GG; obtain ⟨x0, x1, -, -⟩ := id XX; replace hb0 := bt hb0 hbq; replace FS := FS.keep hbq lS; replace lS := Nat.lt_of_lt_of_le lS hbq.size; replace FP := FP.keep hbq lP; replace lP := Nat.lt_of_lt_of_le lP hbq.size; replace FZ := Sev.keep FZ hbq lZ; replace lZ := Nat.lt_of_lt_of_le lZ hbq.size; replace hb12 := bt hb12 hbq; clear s0 s1 s2 s3 s4 s5 s6 p0 p1 p2 p3 p4 p5 p6 z0 z1 z2 z3 z4 z5 z6 hbq; obtain ⟨s0, s1, s2, s3, s4, s5, s6⟩ := id FS; obtain ⟨p0, p1, p2, p3, p4, p5, p6⟩ := id FP; obtain ⟨z0, z1, z2, z3, z4, z5, z6, -, -, -, -, -, -, -⟩ := id FZ)
      | (go_at_call 17; (with_reducible refine (HRS.out _ hb0).mono ?_); rintro e' w12 ⟨⟨tv, he12, htd, hto⟩, hbq⟩; rw [AV.v] at he12; subst he12; replace FF := FF.keep hbq (by omega); replace GG := GG.keep hbq (by omega); replace XX := XX.keep hbq (by omega); replace l1 := Nat.lt_of_lt_of_le l1 hbq.size; clear c0 c1 c2 c3 c4 c5 c6 g0 g1 g2 g3 g4 x0 x1; obtain ⟨c0, c1, c2, c3, c4, c5, c6⟩ := id FF; obtain ⟨g0, g1, g2, g3, g4⟩ := id GG; obtain ⟨x0, x1, -, -⟩ := id XX; replace hb0 := bt hb0 hbq; replace FS := FS.keep hbq lS; replace lS := Nat.lt_of_lt_of_le lS hbq.size; replace FP := FP.keep hbq lP; replace lP := Nat.lt_of_lt_of_le lP hbq.size; replace FZ := Sev.keep FZ hbq lZ; replace lZ := Nat.lt_of_lt_of_le lZ hbq.size; replace hb12 := bt hb12 hbq; clear s0 s1 s2 s3 s4 s5 s6 p0 p1 p2 p3 p4 p5 p6 z0 z1 z2 z3 z4 z5 z6 hbq; obtain ⟨s0, s1, s2, s3, s4, s5, s6⟩ := id FS; obtain ⟨p0, p1, p2, p3, p4, p5, p6⟩ := id FP; obtain ⟨z0, z1, z2, z3, z4, z5, z6, -, -, -, -, -, -, -⟩ := id FZ))
    have FT := sev_new w12 (.int .i64 tv.gen) (.int .i64 tv.ep) (.int .i64 tv.pos) (.int .i64 tv.seq) (.int .i64 tv.last) (.string tv.lab) (.slice tv.HA tv.hs.length tv.hc) 31
    have HTI := Lib.hid ((AV.Own.inn hto).next (bl w12 (.cells #[.int .i64 tv.gen, .int .i64 tv.ep, .int .i64 tv.pos, .int .i64 tv.seq, .int .i64 tv.last, .string tv.lab, .slice tv.HA tv.hs.length tv.hc] 31)))
    have HTD := Lib.hid htd
    have hbq := bl w12 (.cells #[.int .i64 tv.gen, .int .i64 tv.ep, .int .i64 tv.pos, .int .i64 tv.seq, .int .i64 tv.last, .string tv.lab, .slice tv.HA tv.hs.length tv.hc] 31)
    have l1g := l1
    have lSg := lS
    have lPg := lP
    have lZg := lZ
    have l11 := hb12.size
    replace FF := FF.keep hbq (by omega); replace GG := GG.keep hbq (by omega); replace XX := XX.keep hbq (by omega); replace l1 := Nat.lt_of_lt_of_le l1 hbq.size; clear c0 c1 c2 c3 c4 c5 c6 g0 g1 g2 g3 g4 x0 x1; obtain ⟨c0, c1, c2, c3, c4, c5, c6⟩ := id FF; obtain ⟨g0, g1, g2, g3, g4⟩ := id GG; obtain ⟨x0, x1, -, -⟩ := id XX; replace hb0 := bt hb0 hbq; replace FS := FS.keep hbq lS; replace lS := Nat.lt_of_lt_of_le lS hbq.size; replace FP := FP.keep hbq lP; replace lP := Nat.lt_of_lt_of_le lP hbq.size; replace FZ := Sev.keep FZ hbq lZ; replace lZ := Nat.lt_of_lt_of_le lZ hbq.size; replace hb12 := bt hb12 hbq; clear s0 s1 s2 s3 s4 s5 s6 p0 p1 p2 p3 p4 p5 p6 z0 z1 z2 z3 z4 z5 z6 hbq; obtain ⟨s0, s1, s2, s3, s4, s5, s6⟩ := id FS; obtain ⟨p0, p1, p2, p3, p4, p5, p6⟩ := id FP; obtain ⟨z0, z1, z2, z3, z4, z5, z6, -, -, -, -, -, -, -⟩ := id FZ
    obtain ⟨gT, hgT⟩ : ∃ g, g = w12.heap.size := ⟨_, rfl⟩
    have lT : gT < (w12.alloc (.cells #[.int .i64 tv.gen, .int .i64 tv.ep, .int .i64 tv.pos, .int .i64 tv.seq, .int .i64 tv.last, .string tv.lab, .slice tv.HA tv.hs.length tv.hc] 31)).heap.size := by rw [hgT]; simp
    rw [← hgT] at FT l1g lSg lPg lZg l11 ⊢
    clear hgT hto htd HRS cG
    generalize w12.alloc (.cells #[.int .i64 tv.gen, .int .i64 tv.ep, .int .i64 tv.pos, .int .i64 tv.seq, .int .i64 tv.last, .string tv.lab, .slice tv.HA tv.hs.length tv.hc] 31) = w13 at *
    by_cases ha1 : addr < 0
    · have hTn : T = none := HTT.out.trans (sayO_none fun Y h => by obtain ⟨-, h1, h2, -⟩ := h; omega)
      subst hTn
      rw [show (none : Option Anc).isSome = false from rfl]
      obtain ⟨q0, q1, q2, q3, q4, q5, q6, r0, r1, r2, r3, r4, r5, r6⟩ := id FT
      go_upto_region 15 with fail
      have b7 : Below gT w13 (((((((w13.setCell ⟨gT, 0, none⟩ (.int .i64 0)).setCell ⟨gT, 1, none⟩ (.int .i64 0)).setCell ⟨gT, 2, none⟩ (.int .i64 0)).setCell ⟨gT, 3, none⟩ (.int .i64 0)).setCell ⟨gT, 4, none⟩ (.int .i64 0)).setCell ⟨gT, 5, none⟩ (.string ⟨#[]⟩)).setCell ⟨gT, 6, none⟩ (.slice none 0 0)) := anc.below7 (Below.refl gT w13) (Nat.le_refl gT)
      have FT2 := ((((((FT.set0 (.int .i64 0)).set1 (.int .i64 0)).set2 (.int .i64 0)).set3 (.int .i64 0)).set4 (.int .i64 0)).set5 (.string ⟨#[]⟩)).set6 (.slice none 0 0)
      replace FF := FF.keep b7 (by omega)
      replace GG := GG.keep b7 (by omega)
      replace XX := XX.keep b7 (by omega)
      replace FS := FS.keep b7 lSg
      replace FP := FP.keep b7 lPg
      replace FZ := Sev.keep FZ b7 lZg
      replace hb0 := hb0.trans (b7.mono (by omega))
      replace hb12 := hb12.trans (b7.mono l11)
      replace l1 := Nat.lt_of_lt_of_le l1 b7.size
      replace lS := Nat.lt_of_lt_of_le lS b7.size
      replace lP := Nat.lt_of_lt_of_le lP b7.size
      replace lZ := Nat.lt_of_lt_of_le lZ b7.size
      clear c0 c1 c2 c3 c4 c5 c6 g0 g1 g2 g3 g4 x0 x1 s0 s1 s2 s3 s4 s5 s6 p0 p1 p2 p3 p4 p5 p6 z0 z1 z2 z3 z4 z5 z6 q0 q1 q2 q3 q4 q5 q6 r0 r1 r2 r3 r4 r5 r6 FT b7 HTI HTD HTS HTT lT l1g lSg lPg lZg l11
      generalize (((((((w13.setCell ⟨gT, 0, none⟩ (.int .i64 0)).setCell ⟨gT, 1, none⟩ (.int .i64 0)).setCell ⟨gT, 2, none⟩ (.int .i64 0)).setCell ⟨gT, 3, none⟩ (.int .i64 0)).setCell ⟨gT, 4, none⟩ (.int .i64 0)).setCell ⟨gT, 5, none⟩ (.string ⟨#[]⟩)).setCell ⟨gT, 6, none⟩ (.slice none 0 0)) = w14 at *
      obtain ⟨g0, g1, g2, g3, g4⟩ := id GG; obtain ⟨c0, c1, c2, c3, c4, c5, c6⟩ := id FF; obtain ⟨x0, x1, -, -⟩ := id XX; obtain ⟨s0, s1, s2, s3, s4, s5, s6⟩ := id FS; obtain ⟨p0, p1, p2, p3, p4, p5, p6⟩ := id FP; obtain ⟨z0, z1, z2, z3, z4, z5, z6, -, -, -, -, -, -, -⟩ := id FZ
      obtain ⟨q0, q1, q2, q3, q4, q5, q6, -, -, -, -, -, -, -⟩ := id FT2
      have HAN := Lib.hid (fun W (hW : Below w11.heap.size w11 W) => zero_true sv W (HSI5.out.next hW) HSD.out)
      go_upto_region 17 with (go_at_call 15; (with_reducible refine (HAN.out _ hb12).mono ?_); rintro e' wq ⟨rfl, hbq⟩; replace FF := FF.keep hbq (by omega); replace GG := GG.keep hbq (by omega); replace XX := XX.keep hbq (by omega); replace l1 := Nat.lt_of_lt_of_le l1 hbq.size; clear c0 c1 c2 c3 c4 c5 c6 g0 g1 g2 g3 g4 x0 x1; obtain ⟨c0, c1, c2, c3, c4, c5, c6⟩ := id FF; obtain ⟨g0, g1, g2, g3, g4⟩ := id GG; obtain ⟨x0, x1, -, -⟩ := id XX; replace hb0 := bt hb0 hbq; replace FS := FS.keep hbq lS; replace lS := Nat.lt_of_lt_of_le lS hbq.size; replace FP := FP.keep hbq lP; replace lP := Nat.lt_of_lt_of_le lP hbq.size; replace FZ := Sev.keep FZ hbq lZ; replace lZ := Nat.lt_of_lt_of_le lZ hbq.size; replace hb12 := bt hb12 hbq; clear s0 s1 s2 s3 s4 s5 s6 p0 p1 p2 p3 p4 p5 p6 z0 z1 z2 z3 z4 z5 z6 hbq; obtain ⟨s0, s1, s2, s3, s4, s5, s6⟩ := id FS; obtain ⟨p0, p1, p2, p3, p4, p5, p6⟩ := id FP; obtain ⟨z0, z1, z2, z3, z4, z5, z6, -, -, -, -, -, -, -⟩ := id FZ)
      clear q0 q1 q2 q3 q4 q5 q6 FT2 HAN
      clear FS lS s0 s1 s2 s3 s4 s5 s6
      obtain ⟨v4, v5, v6, v7⟩ := HV2.out
      have HZP := Lib.hid (fun (hP : P = noAnc) W (hW : Below w11.heap.size w11 W) => zero_true pv W (HPI5.out.next hW) (HPD.out.trans hP))
      have HRA := Lib.hid (show ∀ (cb : Bool), (cb = true ↔ anc.Good z d s l x.d) → ∀ W, Below w.heap.size w W → Calls Tryd.prog 19 #[.agg #[.int .i64 z, .int .i64 d, .int .i64 s, .int .i64 l, .int .i64 a], .agg #[.int .i64 x.gen, .int .i64 x.ep, .int .i64 x.pos, .int .i64 x.seq, .int .i64 x.last, .string x.lab, .slice x.HA x.hs.length x.hc]] W fun e' w' => e' = .returned (.bool cb) ∧ Below W.heap.size W w' from fun cb hcb W hW => right_p z d s l a cb x W HO.out (HX.out.next hW) (by omega) (fun r hr => Nat.le_trans (t3 r hr) (by omega)) (by omega) hcb)
      clear HV2
      by_cases hna : (n : Int) = a
      case neg =>
        obtain ⟨hP, rfl, rfl⟩ := v4 HO.out hna
        have hn1 : ((n : Int) != a) = true := bne_iff_ne.2 hna
        have HZ1 := Lib.hid (HZP.out hP)
        clear hna hP v4 v5
        go_upto_region 26 with (go_at_call 15; (with_reducible refine (HZ1.out _ hb12).mono ?_); rintro e' wq ⟨rfl, hbq⟩; replace FF := FF.keep hbq (by omega); replace GG := GG.keep hbq (by omega); replace XX := XX.keep hbq (by omega); replace l1 := Nat.lt_of_lt_of_le l1 hbq.size; clear c0 c1 c2 c3 c4 c5 c6 g0 g1 g2 g3 g4 x0 x1; obtain ⟨c0, c1, c2, c3, c4, c5, c6⟩ := id FF; obtain ⟨g0, g1, g2, g3, g4⟩ := id GG; obtain ⟨x0, x1, -, -⟩ := id XX; replace hb0 := bt hb0 hbq; replace FP := FP.keep hbq lP; replace lP := Nat.lt_of_lt_of_le lP hbq.size; replace FZ := Sev.keep FZ hbq lZ; replace lZ := Nat.lt_of_lt_of_le lZ hbq.size; replace hb12 := bt hb12 hbq; clear p0 p1 p2 p3 p4 p5 p6 z0 z1 z2 z3 z4 z5 z6 hbq; obtain ⟨p0, p1, p2, p3, p4, p5, p6⟩ := id FP; obtain ⟨z0, z1, z2, z3, z4, z5, z6, -, -, -, -, -, -, -⟩ := id FZ)
        clear p0 p1 p2 p3 p4 p5 p6 z0 z1 z2 z3 z4 z5 z6 FP FZ lP lZ
        by_cases hgx : anc.Good z d s l x.d
        case neg =>
          obtain ⟨rfl, rfl⟩ := v7 (fun h => hgx h.2.1)
          have HR0 := Lib.hid (HRA.out false (iff_of_false Bool.false_ne_true hgx))
          clear v6 v7 hgx HRA
          go_wp2_with (first
            | (go_at_call 19; (with_reducible refine (HR0.out _ hb0).mono ?_); rintro e' wq ⟨rfl, hbq⟩; replace FF := FF.keep hbq (by omega); replace GG := GG.keep hbq (by omega); replace XX := XX.keep hbq (by omega); replace l1 := Nat.lt_of_lt_of_le l1 hbq.size; clear c0 c1 c2 c3 c4 c5 c6 g0 g1 g2 g3 g4 x0 x1; obtain ⟨c0, c1, c2, c3, c4, c5, c6⟩ := id FF; obtain ⟨g0, g1, g2, g3, g4⟩ := id GG; obtain ⟨x0, x1, -, -⟩ := id XX; replace hb0 := bt hb0 hbq; replace hb12 := bt hb12 hbq; clear hbq)
            | (go_at_call 16; (with_reducible refine (HWK.out _ hb0).mono ?_); rintro e' wz ⟨rfl, hbz⟩))
          go_ret
          exact ⟨rfl, bt hb0 hbz⟩
        have HR0 := Lib.hid (HRA.out true (iff_of_true rfl hgx))
        clear HRA
        by_cases hi0 : i < 0
        case pos =>
          obtain ⟨rfl, rfl⟩ := v7 (fun h => by omega)
          clear v6 v7 hgx
          go_wp2_with (first
            | (go_at_call 19; (with_reducible refine (HR0.out _ hb0).mono ?_); rintro e' wq ⟨rfl, hbq⟩; replace FF := FF.keep hbq (by omega); replace GG := GG.keep hbq (by omega); replace XX := XX.keep hbq (by omega); replace l1 := Nat.lt_of_lt_of_le l1 hbq.size; clear c0 c1 c2 c3 c4 c5 c6 g0 g1 g2 g3 g4 x0 x1; obtain ⟨c0, c1, c2, c3, c4, c5, c6⟩ := id FF; obtain ⟨g0, g1, g2, g3, g4⟩ := id GG; obtain ⟨x0, x1, -, -⟩ := id XX; replace hb0 := bt hb0 hbq; replace hb12 := bt hb12 hbq; clear hbq)
            | (go_at_call 16; (with_reducible refine (HWK.out _ hb0).mono ?_); rintro e' wz ⟨rfl, hbz⟩))
          go_ret
          exact ⟨rfl, bt hb0 hbz⟩
        by_cases hia : i < a
        case neg =>
          obtain ⟨rfl, rfl⟩ := v7 (fun h => hia h.2.2.2)
          clear v6 v7 hgx
          go_wp2_with (first
            | (go_at_call 19; (with_reducible refine (HR0.out _ hb0).mono ?_); rintro e' wq ⟨rfl, hbq⟩; replace FF := FF.keep hbq (by omega); replace GG := GG.keep hbq (by omega); replace XX := XX.keep hbq (by omega); replace l1 := Nat.lt_of_lt_of_le l1 hbq.size; clear c0 c1 c2 c3 c4 c5 c6 g0 g1 g2 g3 g4 x0 x1; obtain ⟨c0, c1, c2, c3, c4, c5, c6⟩ := id FF; obtain ⟨g0, g1, g2, g3, g4⟩ := id GG; obtain ⟨x0, x1, -, -⟩ := id XX; replace hb0 := bt hb0 hbq; replace hb12 := bt hb12 hbq; clear hbq)
            | (go_at_call 16; (with_reducible refine (HWK.out _ hb0).mono ?_); rintro e' wz ⟨rfl, hbz⟩))
          go_ret
          exact ⟨rfl, bt hb0 hbz⟩
        obtain ⟨I, rfl⟩ : ∃ I : Nat, i = I := ⟨i.toNat, by omega⟩
        obtain ⟨rfl, hcq, hcl⟩ := v6 ⟨HO.out, hgx, by omega, hia⟩
        rw [Int.toNat_natCast] at hcl
        have hlen : cl.length = cq := by rw [hcl, hcq, enc_length]
        have h107 : cq ≤ 107 := by have := (enc96 HO.out hgx).1; omega
        have HAC := Lib.hid (show ∀ W, Below w.heap.size w W → Calls Tryd.prog 21 #[.agg #[.int .i64 x.gen, .int .i64 x.ep, .int .i64 x.pos, .int .i64 x.seq, .int .i64 x.last, .string x.lab, .slice x.HA x.hs.length x.hc], .int .i64 I] W fun e' w' => BytA cq cl e' w' ∧ Below W.heap.size W w' from fun W hW => by
          have h9 := ranchor_cell z d s l a x I W HO.out (HX.out.next hW) hgx (by have := HO.out.2.2.2.2; omega)
          rw [← hcq, ← hcl] at h9
          exact h9)
        have HKB := Lib.hid (show ∀ (W : World) (Y : Option Addr) (y2 : Nat), Lies W Z zv cl → Lies W Y y2 cl → Calls Tryd.prog 20 #[.slice Z cq zv, .slice Y cq y2] W fun e' w' => e' = .returned (.bool true) ∧ Below W.heap.size W w' from fun W Y y2 h1 h2 => by
          have h9 := keep_short Z Y zv y2 W.heap.size W.heap.size cl cl W rfl h1.2.2 h2.2.2 (Nat.le_refl _) (Nat.le_refl _) (by omega)
          rw [hlen, decide_eq_true rfl] at h9
          exact h9)
        have HZ3 := Lib.hid (HZL2.out rfl)
        clear v6 v7 hgx hcq hcl hlen h107 HZL2
        go_wp2_with (first
          | (go_at_call 19; (with_reducible refine (HR0.out _ hb0).mono ?_); rintro e' wq ⟨rfl, hbq⟩; replace FF := FF.keep hbq (by omega); replace GG := GG.keep hbq (by omega); replace XX := XX.keep hbq (by omega); replace l1 := Nat.lt_of_lt_of_le l1 hbq.size; clear c0 c1 c2 c3 c4 c5 c6 g0 g1 g2 g3 g4 x0 x1; obtain ⟨c0, c1, c2, c3, c4, c5, c6⟩ := id FF; obtain ⟨g0, g1, g2, g3, g4⟩ := id GG; obtain ⟨x0, x1, -, -⟩ := id XX; replace hb0 := bt hb0 hbq; replace hb12 := bt hb12 hbq; clear hbq)
          | (go_at_call 21; (with_reducible refine (HAC.out _ hb0).mono ?_); rintro e' wq ⟨⟨Y3, y3, rfl, hy3⟩, hbq⟩; replace FF := FF.keep hbq (by omega); replace GG := GG.keep hbq (by omega); replace XX := XX.keep hbq (by omega); replace l1 := Nat.lt_of_lt_of_le l1 hbq.size; clear c0 c1 c2 c3 c4 c5 c6 g0 g1 g2 g3 g4 x0 x1; obtain ⟨c0, c1, c2, c3, c4, c5, c6⟩ := id FF; obtain ⟨g0, g1, g2, g3, g4⟩ := id GG; obtain ⟨x0, x1, -, -⟩ := id XX; replace hb0 := bt hb0 hbq; replace hb12 := bt hb12 hbq; clear hbq)
          | (go_at_call 20; (with_reducible refine (HKB.out _ _ _ (lies_nx HZ3.out hb12) hy3).mono ?_); rintro e' wq ⟨rfl, hbq⟩; replace FF := FF.keep hbq (by omega); replace GG := GG.keep hbq (by omega); replace XX := XX.keep hbq (by omega); replace l1 := Nat.lt_of_lt_of_le l1 hbq.size; clear c0 c1 c2 c3 c4 c5 c6 g0 g1 g2 g3 g4 x0 x1; obtain ⟨c0, c1, c2, c3, c4, c5, c6⟩ := id FF; obtain ⟨g0, g1, g2, g3, g4⟩ := id GG; obtain ⟨x0, x1, -, -⟩ := id XX; replace hb0 := bt hb0 hbq; replace hb12 := bt hb12 hbq; clear hbq)
          | (go_at_call 16; (with_reducible refine (HWK.out _ hb0).mono ?_); rintro e' wz ⟨rfl, hbz⟩))
        go_ret
        exact ⟨rfl, bt hb0 hbz⟩
      obtain ⟨hP, hpi, hpe⟩ := v5 HO.out hna
      have hn1 : ((n : Int) != a) = false := by rw [hna]; exact bne_self_eq_false _
      obtain ⟨N, hNN⟩ : ∃ N, N = newN (sayAt z d s l (gds rs)) n := ⟨_, rfl⟩
      rw [← hNN] at hP hpi hpe
      have HNQ := Lib.hid (show ∀ W, Below w.heap.size w W → Calls Tryd.prog 18 #[.agg #[.int .i64 z, .int .i64 d, .int .i64 s, .int .i64 l, .int .i64 a], .slice A n c] W fun e' w' => NewQ W.heap.size N e' w' ∧ Below W.heap.size W w' from fun W hW => by
        rw [hNN]
        exact rnewest_any z d s l a A n c rs W HO.out HN.out (HA.out.next hW) (HR.out.next hW) (by have := HN.out; omega))
      clear hna v4 v5
      rcases N with _ | ⟨Y, j⟩
      case none =>
        replace hpi : pi = 0 := hpi
        replace hpe : pe = 11 := hpe
        subst hpi hpe
        have HZ1 := Lib.hid (HZP.out hP)
        have HNR := Lib.hid (show ∀ W, Below w.heap.size w W → Calls Tryd.prog 18 #[.agg #[.int .i64 z, .int .i64 d, .int .i64 s, .int .i64 l, .int .i64 a], .slice A n c] W fun e' w' => (∃ y : AV, e' = .returned (.tuple #[.agg #[.int .i64 y.gen, .int .i64 y.ep, .int .i64 y.pos, .int .i64 y.seq, .int .i64 y.last, .string y.lab, .slice y.HA y.hs.length y.hc], .int .i64 (-1)])) ∧ Below W.heap.size W w' from fun W hW => (HNQ.out W hW).mono fun e' w' h => ⟨by obtain ⟨⟨y, h1, -⟩, -⟩ := h; exact ⟨y, h1⟩, h.2⟩)
        clear hP hNN HNQ
        go_upto_region 21 with (go_at_call 18; (with_reducible refine (HNR.out _ hb0).mono ?_); rintro e' w16 ⟨⟨nv, rfl⟩, hbq⟩; replace FF := FF.keep hbq (by omega); replace GG := GG.keep hbq (by omega); replace XX := XX.keep hbq (by omega); replace l1 := Nat.lt_of_lt_of_le l1 hbq.size; clear c0 c1 c2 c3 c4 c5 c6 g0 g1 g2 g3 g4 x0 x1; obtain ⟨c0, c1, c2, c3, c4, c5, c6⟩ := id FF; obtain ⟨g0, g1, g2, g3, g4⟩ := id GG; obtain ⟨x0, x1, -, -⟩ := id XX; replace hb0 := bt hb0 hbq; replace FP := FP.keep hbq lP; replace lP := Nat.lt_of_lt_of_le lP hbq.size; replace FZ := Sev.keep FZ hbq lZ; replace lZ := Nat.lt_of_lt_of_le lZ hbq.size; replace hb12 := bt hb12 hbq; clear p0 p1 p2 p3 p4 p5 p6 z0 z1 z2 z3 z4 z5 z6 hbq; obtain ⟨p0, p1, p2, p3, p4, p5, p6⟩ := id FP; obtain ⟨z0, z1, z2, z3, z4, z5, z6, -, -, -, -, -, -, -⟩ := id FZ)
        have hbq := bl w16 (.cells #[.int .i64 nv.gen, .int .i64 nv.ep, .int .i64 nv.pos, .int .i64 nv.seq, .int .i64 nv.last, .string nv.lab, .slice nv.HA nv.hs.length nv.hc] 31)
        replace FF := FF.keep hbq (by omega); replace GG := GG.keep hbq (by omega); replace XX := XX.keep hbq (by omega); replace l1 := Nat.lt_of_lt_of_le l1 hbq.size; clear c0 c1 c2 c3 c4 c5 c6 g0 g1 g2 g3 g4 x0 x1; obtain ⟨c0, c1, c2, c3, c4, c5, c6⟩ := id FF; obtain ⟨g0, g1, g2, g3, g4⟩ := id GG; obtain ⟨x0, x1, -, -⟩ := id XX; replace hb0 := bt hb0 hbq; replace FP := FP.keep hbq lP; replace lP := Nat.lt_of_lt_of_le lP hbq.size; replace FZ := Sev.keep FZ hbq lZ; replace lZ := Nat.lt_of_lt_of_le lZ hbq.size; replace hb12 := bt hb12 hbq; clear p0 p1 p2 p3 p4 p5 p6 z0 z1 z2 z3 z4 z5 z6 hbq; obtain ⟨p0, p1, p2, p3, p4, p5, p6⟩ := id FP; obtain ⟨z0, z1, z2, z3, z4, z5, z6, -, -, -, -, -, -, -⟩ := id FZ
        generalize w16.alloc (.cells #[.int .i64 nv.gen, .int .i64 nv.ep, .int .i64 nv.pos, .int .i64 nv.seq, .int .i64 nv.last, .string nv.lab, .slice nv.HA nv.hs.length nv.hc] 31) = w17 at *
        clear HNR
        go_upto_region 26 with (go_at_call 15; (with_reducible refine (HZ1.out _ hb12).mono ?_); rintro e' wq ⟨rfl, hbq⟩; replace FF := FF.keep hbq (by omega); replace GG := GG.keep hbq (by omega); replace XX := XX.keep hbq (by omega); replace l1 := Nat.lt_of_lt_of_le l1 hbq.size; clear c0 c1 c2 c3 c4 c5 c6 g0 g1 g2 g3 g4 x0 x1; obtain ⟨c0, c1, c2, c3, c4, c5, c6⟩ := id FF; obtain ⟨g0, g1, g2, g3, g4⟩ := id GG; obtain ⟨x0, x1, -, -⟩ := id XX; replace hb0 := bt hb0 hbq; replace FP := FP.keep hbq lP; replace lP := Nat.lt_of_lt_of_le lP hbq.size; replace FZ := Sev.keep FZ hbq lZ; replace lZ := Nat.lt_of_lt_of_le lZ hbq.size; replace hb12 := bt hb12 hbq; clear p0 p1 p2 p3 p4 p5 p6 z0 z1 z2 z3 z4 z5 z6 hbq; obtain ⟨p0, p1, p2, p3, p4, p5, p6⟩ := id FP; obtain ⟨z0, z1, z2, z3, z4, z5, z6, -, -, -, -, -, -, -⟩ := id FZ)
        clear p0 p1 p2 p3 p4 p5 p6 z0 z1 z2 z3 z4 z5 z6 FP FZ lP lZ
        by_cases hgx : anc.Good z d s l x.d
        case neg =>
          obtain ⟨rfl, rfl⟩ := v7 (fun h => hgx h.2.1)
          have HR0 := Lib.hid (HRA.out false (iff_of_false Bool.false_ne_true hgx))
          clear v6 v7 hgx HRA
          go_wp2_with (first
            | (go_at_call 19; (with_reducible refine (HR0.out _ hb0).mono ?_); rintro e' wq ⟨rfl, hbq⟩; replace FF := FF.keep hbq (by omega); replace GG := GG.keep hbq (by omega); replace XX := XX.keep hbq (by omega); replace l1 := Nat.lt_of_lt_of_le l1 hbq.size; clear c0 c1 c2 c3 c4 c5 c6 g0 g1 g2 g3 g4 x0 x1; obtain ⟨c0, c1, c2, c3, c4, c5, c6⟩ := id FF; obtain ⟨g0, g1, g2, g3, g4⟩ := id GG; obtain ⟨x0, x1, -, -⟩ := id XX; replace hb0 := bt hb0 hbq; replace hb12 := bt hb12 hbq; clear hbq)
            | (go_at_call 16; (with_reducible refine (HWK.out _ hb0).mono ?_); rintro e' wz ⟨rfl, hbz⟩))
          go_ret
          exact ⟨rfl, bt hb0 hbz⟩
        have HR0 := Lib.hid (HRA.out true (iff_of_true rfl hgx))
        clear HRA
        by_cases hi0 : i < 0
        case pos =>
          obtain ⟨rfl, rfl⟩ := v7 (fun h => by omega)
          clear v6 v7 hgx
          go_wp2_with (first
            | (go_at_call 19; (with_reducible refine (HR0.out _ hb0).mono ?_); rintro e' wq ⟨rfl, hbq⟩; replace FF := FF.keep hbq (by omega); replace GG := GG.keep hbq (by omega); replace XX := XX.keep hbq (by omega); replace l1 := Nat.lt_of_lt_of_le l1 hbq.size; clear c0 c1 c2 c3 c4 c5 c6 g0 g1 g2 g3 g4 x0 x1; obtain ⟨c0, c1, c2, c3, c4, c5, c6⟩ := id FF; obtain ⟨g0, g1, g2, g3, g4⟩ := id GG; obtain ⟨x0, x1, -, -⟩ := id XX; replace hb0 := bt hb0 hbq; replace hb12 := bt hb12 hbq; clear hbq)
            | (go_at_call 16; (with_reducible refine (HWK.out _ hb0).mono ?_); rintro e' wz ⟨rfl, hbz⟩))
          go_ret
          exact ⟨rfl, bt hb0 hbz⟩
        by_cases hia : i < a
        case neg =>
          obtain ⟨rfl, rfl⟩ := v7 (fun h => hia h.2.2.2)
          clear v6 v7 hgx
          go_wp2_with (first
            | (go_at_call 19; (with_reducible refine (HR0.out _ hb0).mono ?_); rintro e' wq ⟨rfl, hbq⟩; replace FF := FF.keep hbq (by omega); replace GG := GG.keep hbq (by omega); replace XX := XX.keep hbq (by omega); replace l1 := Nat.lt_of_lt_of_le l1 hbq.size; clear c0 c1 c2 c3 c4 c5 c6 g0 g1 g2 g3 g4 x0 x1; obtain ⟨c0, c1, c2, c3, c4, c5, c6⟩ := id FF; obtain ⟨g0, g1, g2, g3, g4⟩ := id GG; obtain ⟨x0, x1, -, -⟩ := id XX; replace hb0 := bt hb0 hbq; replace hb12 := bt hb12 hbq; clear hbq)
            | (go_at_call 16; (with_reducible refine (HWK.out _ hb0).mono ?_); rintro e' wz ⟨rfl, hbz⟩))
          go_ret
          exact ⟨rfl, bt hb0 hbz⟩
        obtain ⟨I, rfl⟩ : ∃ I : Nat, i = I := ⟨i.toNat, by omega⟩
        obtain ⟨rfl, hcq, hcl⟩ := v6 ⟨HO.out, hgx, by omega, hia⟩
        rw [Int.toNat_natCast] at hcl
        have hlen : cl.length = cq := by rw [hcl, hcq, enc_length]
        have h107 : cq ≤ 107 := by have := (enc96 HO.out hgx).1; omega
        have HAC := Lib.hid (show ∀ W, Below w.heap.size w W → Calls Tryd.prog 21 #[.agg #[.int .i64 x.gen, .int .i64 x.ep, .int .i64 x.pos, .int .i64 x.seq, .int .i64 x.last, .string x.lab, .slice x.HA x.hs.length x.hc], .int .i64 I] W fun e' w' => BytA cq cl e' w' ∧ Below W.heap.size W w' from fun W hW => by
          have h9 := ranchor_cell z d s l a x I W HO.out (HX.out.next hW) hgx (by have := HO.out.2.2.2.2; omega)
          rw [← hcq, ← hcl] at h9
          exact h9)
        have HKB := Lib.hid (show ∀ (W : World) (Y : Option Addr) (y2 : Nat), Lies W Z zv cl → Lies W Y y2 cl → Calls Tryd.prog 20 #[.slice Z cq zv, .slice Y cq y2] W fun e' w' => e' = .returned (.bool true) ∧ Below W.heap.size W w' from fun W Y y2 h1 h2 => by
          have h9 := keep_short Z Y zv y2 W.heap.size W.heap.size cl cl W rfl h1.2.2 h2.2.2 (Nat.le_refl _) (Nat.le_refl _) (by omega)
          rw [hlen, decide_eq_true rfl] at h9
          exact h9)
        have HZ3 := Lib.hid (HZL2.out rfl)
        clear v6 v7 hgx hcq hcl hlen h107 HZL2
        go_wp2_with (first
          | (go_at_call 19; (with_reducible refine (HR0.out _ hb0).mono ?_); rintro e' wq ⟨rfl, hbq⟩; replace FF := FF.keep hbq (by omega); replace GG := GG.keep hbq (by omega); replace XX := XX.keep hbq (by omega); replace l1 := Nat.lt_of_lt_of_le l1 hbq.size; clear c0 c1 c2 c3 c4 c5 c6 g0 g1 g2 g3 g4 x0 x1; obtain ⟨c0, c1, c2, c3, c4, c5, c6⟩ := id FF; obtain ⟨g0, g1, g2, g3, g4⟩ := id GG; obtain ⟨x0, x1, -, -⟩ := id XX; replace hb0 := bt hb0 hbq; replace hb12 := bt hb12 hbq; clear hbq)
          | (go_at_call 21; (with_reducible refine (HAC.out _ hb0).mono ?_); rintro e' wq ⟨⟨Y3, y3, rfl, hy3⟩, hbq⟩; replace FF := FF.keep hbq (by omega); replace GG := GG.keep hbq (by omega); replace XX := XX.keep hbq (by omega); replace l1 := Nat.lt_of_lt_of_le l1 hbq.size; clear c0 c1 c2 c3 c4 c5 c6 g0 g1 g2 g3 g4 x0 x1; obtain ⟨c0, c1, c2, c3, c4, c5, c6⟩ := id FF; obtain ⟨g0, g1, g2, g3, g4⟩ := id GG; obtain ⟨x0, x1, -, -⟩ := id XX; replace hb0 := bt hb0 hbq; replace hb12 := bt hb12 hbq; clear hbq)
          | (go_at_call 20; (with_reducible refine (HKB.out _ _ _ (lies_nx HZ3.out hb12) hy3).mono ?_); rintro e' wq ⟨rfl, hbq⟩; replace FF := FF.keep hbq (by omega); replace GG := GG.keep hbq (by omega); replace XX := XX.keep hbq (by omega); replace l1 := Nat.lt_of_lt_of_le l1 hbq.size; clear c0 c1 c2 c3 c4 c5 c6 g0 g1 g2 g3 g4 x0 x1; obtain ⟨c0, c1, c2, c3, c4, c5, c6⟩ := id FF; obtain ⟨g0, g1, g2, g3, g4⟩ := id GG; obtain ⟨x0, x1, -, -⟩ := id XX; replace hb0 := bt hb0 hbq; replace hb12 := bt hb12 hbq; clear hbq)
          | (go_at_call 16; (with_reducible refine (HWK.out _ hb0).mono ?_); rintro e' wz ⟨rfl, hbz⟩))
        go_ret
        exact ⟨rfl, bt hb0 hbz⟩
      case some =>
        replace hpi : pi = (j : Int) := hpi
        replace hpe : pe = 0 := hpe
        subst hpi hpe
        have hsY : Y.hs.length ≤ 1048576 ∧ ∀ h ∈ Y.hs, h.ps.length ≤ 1048576 := by
          obtain ⟨hj, hfj⟩ := newN_lt hNN.symm
          have hl : j < (gds rs).length := by rw [gds_length]; have := HN.out; omega
          rw [sayAt_get (List.getElem?_eq_getElem hl)] at hfj
          exact say_short HO.out hfj.symm
        have hPY : P = Y := hP
        have HNR := Lib.hid (show ∀ W, Below w.heap.size w W → Calls Tryd.prog 18 #[.agg #[.int .i64 z, .int .i64 d, .int .i64 s, .int .i64 l, .int .i64 a], .slice A n c] W fun e' w' => (∃ y : AV, e' = .returned (.tuple #[.agg #[.int .i64 y.gen, .int .i64 y.ep, .int .i64 y.pos, .int .i64 y.seq, .int .i64 y.last, .string y.lab, .slice y.HA y.hs.length y.hc], .int .i64 j]) ∧ y.d = Y ∧ y.In w' w'.heap.size) ∧ Below W.heap.size W w' from fun W hW => (HNQ.out W hW).mono fun e' w' h => ⟨by obtain ⟨⟨y, h1, h2, h3⟩, -⟩ := h; exact ⟨y, h1, h2, AV.Own.inn h3⟩, h.2⟩)
        have HSY := Lib.hid hsY
        have HPY := Lib.hid (HPD.out.trans hPY)
        have j1 : ¬ (j : Int) < 0 := by omega
        have j2 : ((j : Int) != j) = false := bne_self_eq_false _
        clear hP hNN HNQ hPY hsY HZP
        go_upto_region 21 with (go_at_call 18; (with_reducible refine (HNR.out _ hb0).mono ?_); rintro e' w16 ⟨⟨nv, rfl, hnd, hni⟩, hbq⟩; replace FF := FF.keep hbq (by omega); replace GG := GG.keep hbq (by omega); replace XX := XX.keep hbq (by omega); replace l1 := Nat.lt_of_lt_of_le l1 hbq.size; clear c0 c1 c2 c3 c4 c5 c6 g0 g1 g2 g3 g4 x0 x1; obtain ⟨c0, c1, c2, c3, c4, c5, c6⟩ := id FF; obtain ⟨g0, g1, g2, g3, g4⟩ := id GG; obtain ⟨x0, x1, -, -⟩ := id XX; replace hb0 := bt hb0 hbq; replace FP := FP.keep hbq lP; replace lP := Nat.lt_of_lt_of_le lP hbq.size; replace FZ := Sev.keep FZ hbq lZ; replace lZ := Nat.lt_of_lt_of_le lZ hbq.size; replace hb12 := bt hb12 hbq; clear p0 p1 p2 p3 p4 p5 p6 z0 z1 z2 z3 z4 z5 z6 hbq; obtain ⟨p0, p1, p2, p3, p4, p5, p6⟩ := id FP; obtain ⟨z0, z1, z2, z3, z4, z5, z6, -, -, -, -, -, -, -⟩ := id FZ)
        have FN := ac_new w16 nv
        have hbq := bl w16 (.cells #[.int .i64 nv.gen, .int .i64 nv.ep, .int .i64 nv.pos, .int .i64 nv.seq, .int .i64 nv.last, .string nv.lab, .slice nv.HA nv.hs.length nv.hc] 31)
        have HNI := Lib.hid (hni.next hbq)
        have HND := Lib.hid hnd
        replace FF := FF.keep hbq (by omega); replace GG := GG.keep hbq (by omega); replace XX := XX.keep hbq (by omega); replace l1 := Nat.lt_of_lt_of_le l1 hbq.size; clear c0 c1 c2 c3 c4 c5 c6 g0 g1 g2 g3 g4 x0 x1; obtain ⟨c0, c1, c2, c3, c4, c5, c6⟩ := id FF; obtain ⟨g0, g1, g2, g3, g4⟩ := id GG; obtain ⟨x0, x1, -, -⟩ := id XX; replace hb0 := bt hb0 hbq; replace FP := FP.keep hbq lP; replace lP := Nat.lt_of_lt_of_le lP hbq.size; replace FZ := Sev.keep FZ hbq lZ; replace lZ := Nat.lt_of_lt_of_le lZ hbq.size; replace hb12 := bt hb12 hbq; clear p0 p1 p2 p3 p4 p5 p6 z0 z1 z2 z3 z4 z5 z6 hbq; obtain ⟨p0, p1, p2, p3, p4, p5, p6⟩ := id FP; obtain ⟨z0, z1, z2, z3, z4, z5, z6, -, -, -, -, -, -, -⟩ := id FZ
        clear HNR hni hnd
        obtain ⟨gN, hgN⟩ : ∃ g, g = w16.heap.size := ⟨_, rfl⟩
        rw [← hgN] at FN ⊢
        clear hgN
        generalize w16.alloc (.cells #[.int .i64 nv.gen, .int .i64 nv.ep, .int .i64 nv.pos, .int .i64 nv.seq, .int .i64 nv.last, .string nv.lab, .slice nv.HA nv.hs.length nv.hc] 31) = w17 at *
        have HAN := Lib.hid (fun W (hW : Below w11.heap.size w11 W) (hW2 : Below w17.heap.size w17 W) => an_same pv nv Y W (HPI5.out.next hW) (HNI.out.next hW2) HPY.out HND.out HSY.out)
        obtain ⟨n0, n1, n2, n3, n4, n5, n6⟩ := id FN
        go_upto_region 26 with (go_at_call 15; (with_reducible refine (HAN.out _ hb12 (Below.refl _ _)).mono ?_); rintro e' wq ⟨rfl, hbq⟩; replace FF := FF.keep hbq (by omega); replace GG := GG.keep hbq (by omega); replace XX := XX.keep hbq (by omega); replace l1 := Nat.lt_of_lt_of_le l1 hbq.size; clear c0 c1 c2 c3 c4 c5 c6 g0 g1 g2 g3 g4 x0 x1; obtain ⟨c0, c1, c2, c3, c4, c5, c6⟩ := id FF; obtain ⟨g0, g1, g2, g3, g4⟩ := id GG; obtain ⟨x0, x1, -, -⟩ := id XX; replace hb0 := bt hb0 hbq; replace FP := FP.keep hbq lP; replace lP := Nat.lt_of_lt_of_le lP hbq.size; replace FZ := Sev.keep FZ hbq lZ; replace lZ := Nat.lt_of_lt_of_le lZ hbq.size; replace hb12 := bt hb12 hbq; clear p0 p1 p2 p3 p4 p5 p6 z0 z1 z2 z3 z4 z5 z6 hbq; obtain ⟨p0, p1, p2, p3, p4, p5, p6⟩ := id FP; obtain ⟨z0, z1, z2, z3, z4, z5, z6, -, -, -, -, -, -, -⟩ := id FZ)
        clear n0 n1 n2 n3 n4 n5 n6 FN HAN HNI HND HSY HPY
        clear p0 p1 p2 p3 p4 p5 p6 z0 z1 z2 z3 z4 z5 z6 FP FZ lP lZ
        by_cases hgx : anc.Good z d s l x.d
        case neg =>
          obtain ⟨rfl, rfl⟩ := v7 (fun h => hgx h.2.1)
          have HR0 := Lib.hid (HRA.out false (iff_of_false Bool.false_ne_true hgx))
          clear v6 v7 hgx HRA
          go_wp2_with (first
            | (go_at_call 19; (with_reducible refine (HR0.out _ hb0).mono ?_); rintro e' wq ⟨rfl, hbq⟩; replace FF := FF.keep hbq (by omega); replace GG := GG.keep hbq (by omega); replace XX := XX.keep hbq (by omega); replace l1 := Nat.lt_of_lt_of_le l1 hbq.size; clear c0 c1 c2 c3 c4 c5 c6 g0 g1 g2 g3 g4 x0 x1; obtain ⟨c0, c1, c2, c3, c4, c5, c6⟩ := id FF; obtain ⟨g0, g1, g2, g3, g4⟩ := id GG; obtain ⟨x0, x1, -, -⟩ := id XX; replace hb0 := bt hb0 hbq; replace hb12 := bt hb12 hbq; clear hbq)
            | (go_at_call 16; (with_reducible refine (HWK.out _ hb0).mono ?_); rintro e' wz ⟨rfl, hbz⟩))
          go_ret
          exact ⟨rfl, bt hb0 hbz⟩
        have HR0 := Lib.hid (HRA.out true (iff_of_true rfl hgx))
        clear HRA
        by_cases hi0 : i < 0
        case pos =>
          obtain ⟨rfl, rfl⟩ := v7 (fun h => by omega)
          clear v6 v7 hgx
          go_wp2_with (first
            | (go_at_call 19; (with_reducible refine (HR0.out _ hb0).mono ?_); rintro e' wq ⟨rfl, hbq⟩; replace FF := FF.keep hbq (by omega); replace GG := GG.keep hbq (by omega); replace XX := XX.keep hbq (by omega); replace l1 := Nat.lt_of_lt_of_le l1 hbq.size; clear c0 c1 c2 c3 c4 c5 c6 g0 g1 g2 g3 g4 x0 x1; obtain ⟨c0, c1, c2, c3, c4, c5, c6⟩ := id FF; obtain ⟨g0, g1, g2, g3, g4⟩ := id GG; obtain ⟨x0, x1, -, -⟩ := id XX; replace hb0 := bt hb0 hbq; replace hb12 := bt hb12 hbq; clear hbq)
            | (go_at_call 16; (with_reducible refine (HWK.out _ hb0).mono ?_); rintro e' wz ⟨rfl, hbz⟩))
          go_ret
          exact ⟨rfl, bt hb0 hbz⟩
        by_cases hia : i < a
        case neg =>
          obtain ⟨rfl, rfl⟩ := v7 (fun h => hia h.2.2.2)
          clear v6 v7 hgx
          go_wp2_with (first
            | (go_at_call 19; (with_reducible refine (HR0.out _ hb0).mono ?_); rintro e' wq ⟨rfl, hbq⟩; replace FF := FF.keep hbq (by omega); replace GG := GG.keep hbq (by omega); replace XX := XX.keep hbq (by omega); replace l1 := Nat.lt_of_lt_of_le l1 hbq.size; clear c0 c1 c2 c3 c4 c5 c6 g0 g1 g2 g3 g4 x0 x1; obtain ⟨c0, c1, c2, c3, c4, c5, c6⟩ := id FF; obtain ⟨g0, g1, g2, g3, g4⟩ := id GG; obtain ⟨x0, x1, -, -⟩ := id XX; replace hb0 := bt hb0 hbq; replace hb12 := bt hb12 hbq; clear hbq)
            | (go_at_call 16; (with_reducible refine (HWK.out _ hb0).mono ?_); rintro e' wz ⟨rfl, hbz⟩))
          go_ret
          exact ⟨rfl, bt hb0 hbz⟩
        obtain ⟨I, rfl⟩ : ∃ I : Nat, i = I := ⟨i.toNat, by omega⟩
        obtain ⟨rfl, hcq, hcl⟩ := v6 ⟨HO.out, hgx, by omega, hia⟩
        rw [Int.toNat_natCast] at hcl
        have hlen : cl.length = cq := by rw [hcl, hcq, enc_length]
        have h107 : cq ≤ 107 := by have := (enc96 HO.out hgx).1; omega
        have HAC := Lib.hid (show ∀ W, Below w.heap.size w W → Calls Tryd.prog 21 #[.agg #[.int .i64 x.gen, .int .i64 x.ep, .int .i64 x.pos, .int .i64 x.seq, .int .i64 x.last, .string x.lab, .slice x.HA x.hs.length x.hc], .int .i64 I] W fun e' w' => BytA cq cl e' w' ∧ Below W.heap.size W w' from fun W hW => by
          have h9 := ranchor_cell z d s l a x I W HO.out (HX.out.next hW) hgx (by have := HO.out.2.2.2.2; omega)
          rw [← hcq, ← hcl] at h9
          exact h9)
        have HKB := Lib.hid (show ∀ (W : World) (Y : Option Addr) (y2 : Nat), Lies W Z zv cl → Lies W Y y2 cl → Calls Tryd.prog 20 #[.slice Z cq zv, .slice Y cq y2] W fun e' w' => e' = .returned (.bool true) ∧ Below W.heap.size W w' from fun W Y y2 h1 h2 => by
          have h9 := keep_short Z Y zv y2 W.heap.size W.heap.size cl cl W rfl h1.2.2 h2.2.2 (Nat.le_refl _) (Nat.le_refl _) (by omega)
          rw [hlen, decide_eq_true rfl] at h9
          exact h9)
        have HZ3 := Lib.hid (HZL2.out rfl)
        clear v6 v7 hgx hcq hcl hlen h107 HZL2
        go_wp2_with (first
          | (go_at_call 19; (with_reducible refine (HR0.out _ hb0).mono ?_); rintro e' wq ⟨rfl, hbq⟩; replace FF := FF.keep hbq (by omega); replace GG := GG.keep hbq (by omega); replace XX := XX.keep hbq (by omega); replace l1 := Nat.lt_of_lt_of_le l1 hbq.size; clear c0 c1 c2 c3 c4 c5 c6 g0 g1 g2 g3 g4 x0 x1; obtain ⟨c0, c1, c2, c3, c4, c5, c6⟩ := id FF; obtain ⟨g0, g1, g2, g3, g4⟩ := id GG; obtain ⟨x0, x1, -, -⟩ := id XX; replace hb0 := bt hb0 hbq; replace hb12 := bt hb12 hbq; clear hbq)
          | (go_at_call 21; (with_reducible refine (HAC.out _ hb0).mono ?_); rintro e' wq ⟨⟨Y3, y3, rfl, hy3⟩, hbq⟩; replace FF := FF.keep hbq (by omega); replace GG := GG.keep hbq (by omega); replace XX := XX.keep hbq (by omega); replace l1 := Nat.lt_of_lt_of_le l1 hbq.size; clear c0 c1 c2 c3 c4 c5 c6 g0 g1 g2 g3 g4 x0 x1; obtain ⟨c0, c1, c2, c3, c4, c5, c6⟩ := id FF; obtain ⟨g0, g1, g2, g3, g4⟩ := id GG; obtain ⟨x0, x1, -, -⟩ := id XX; replace hb0 := bt hb0 hbq; replace hb12 := bt hb12 hbq; clear hbq)
          | (go_at_call 20; (with_reducible refine (HKB.out _ _ _ (lies_nx HZ3.out hb12) hy3).mono ?_); rintro e' wq ⟨rfl, hbq⟩; replace FF := FF.keep hbq (by omega); replace GG := GG.keep hbq (by omega); replace XX := XX.keep hbq (by omega); replace l1 := Nat.lt_of_lt_of_le l1 hbq.size; clear c0 c1 c2 c3 c4 c5 c6 g0 g1 g2 g3 g4 x0 x1; obtain ⟨c0, c1, c2, c3, c4, c5, c6⟩ := id FF; obtain ⟨g0, g1, g2, g3, g4⟩ := id GG; obtain ⟨x0, x1, -, -⟩ := id XX; replace hb0 := bt hb0 hbq; replace hb12 := bt hb12 hbq; clear hbq)
          | (go_at_call 16; (with_reducible refine (HWK.out _ hb0).mono ?_); rintro e' wz ⟨rfl, hbz⟩))
        go_ret
        exact ⟨rfl, bt hb0 hbz⟩
    by_cases ha2 : (65535 : Int) < addr
    · have hTn : T = none := HTT.out.trans (sayO_none fun Y h => by obtain ⟨-, h1, h2, -⟩ := h; omega)
      subst hTn
      rw [show (none : Option Anc).isSome = false from rfl]
      obtain ⟨q0, q1, q2, q3, q4, q5, q6, r0, r1, r2, r3, r4, r5, r6⟩ := id FT
      go_upto_region 15 with fail
      have b7 : Below gT w13 (((((((w13.setCell ⟨gT, 0, none⟩ (.int .i64 0)).setCell ⟨gT, 1, none⟩ (.int .i64 0)).setCell ⟨gT, 2, none⟩ (.int .i64 0)).setCell ⟨gT, 3, none⟩ (.int .i64 0)).setCell ⟨gT, 4, none⟩ (.int .i64 0)).setCell ⟨gT, 5, none⟩ (.string ⟨#[]⟩)).setCell ⟨gT, 6, none⟩ (.slice none 0 0)) := anc.below7 (Below.refl gT w13) (Nat.le_refl gT)
      have FT2 := ((((((FT.set0 (.int .i64 0)).set1 (.int .i64 0)).set2 (.int .i64 0)).set3 (.int .i64 0)).set4 (.int .i64 0)).set5 (.string ⟨#[]⟩)).set6 (.slice none 0 0)
      replace FF := FF.keep b7 (by omega)
      replace GG := GG.keep b7 (by omega)
      replace XX := XX.keep b7 (by omega)
      replace FS := FS.keep b7 lSg
      replace FP := FP.keep b7 lPg
      replace FZ := Sev.keep FZ b7 lZg
      replace hb0 := hb0.trans (b7.mono (by omega))
      replace hb12 := hb12.trans (b7.mono l11)
      replace l1 := Nat.lt_of_lt_of_le l1 b7.size
      replace lS := Nat.lt_of_lt_of_le lS b7.size
      replace lP := Nat.lt_of_lt_of_le lP b7.size
      replace lZ := Nat.lt_of_lt_of_le lZ b7.size
      clear c0 c1 c2 c3 c4 c5 c6 g0 g1 g2 g3 g4 x0 x1 s0 s1 s2 s3 s4 s5 s6 p0 p1 p2 p3 p4 p5 p6 z0 z1 z2 z3 z4 z5 z6 q0 q1 q2 q3 q4 q5 q6 r0 r1 r2 r3 r4 r5 r6 FT b7 HTI HTD HTS HTT lT l1g lSg lPg lZg l11
      generalize (((((((w13.setCell ⟨gT, 0, none⟩ (.int .i64 0)).setCell ⟨gT, 1, none⟩ (.int .i64 0)).setCell ⟨gT, 2, none⟩ (.int .i64 0)).setCell ⟨gT, 3, none⟩ (.int .i64 0)).setCell ⟨gT, 4, none⟩ (.int .i64 0)).setCell ⟨gT, 5, none⟩ (.string ⟨#[]⟩)).setCell ⟨gT, 6, none⟩ (.slice none 0 0)) = w14 at *
      obtain ⟨g0, g1, g2, g3, g4⟩ := id GG; obtain ⟨c0, c1, c2, c3, c4, c5, c6⟩ := id FF; obtain ⟨x0, x1, -, -⟩ := id XX; obtain ⟨s0, s1, s2, s3, s4, s5, s6⟩ := id FS; obtain ⟨p0, p1, p2, p3, p4, p5, p6⟩ := id FP; obtain ⟨z0, z1, z2, z3, z4, z5, z6, -, -, -, -, -, -, -⟩ := id FZ
      obtain ⟨q0, q1, q2, q3, q4, q5, q6, -, -, -, -, -, -, -⟩ := id FT2
      have HAN := Lib.hid (fun W (hW : Below w11.heap.size w11 W) => zero_true sv W (HSI5.out.next hW) HSD.out)
      go_upto_region 17 with (go_at_call 15; (with_reducible refine (HAN.out _ hb12).mono ?_); rintro e' wq ⟨rfl, hbq⟩; replace FF := FF.keep hbq (by omega); replace GG := GG.keep hbq (by omega); replace XX := XX.keep hbq (by omega); replace l1 := Nat.lt_of_lt_of_le l1 hbq.size; clear c0 c1 c2 c3 c4 c5 c6 g0 g1 g2 g3 g4 x0 x1; obtain ⟨c0, c1, c2, c3, c4, c5, c6⟩ := id FF; obtain ⟨g0, g1, g2, g3, g4⟩ := id GG; obtain ⟨x0, x1, -, -⟩ := id XX; replace hb0 := bt hb0 hbq; replace FS := FS.keep hbq lS; replace lS := Nat.lt_of_lt_of_le lS hbq.size; replace FP := FP.keep hbq lP; replace lP := Nat.lt_of_lt_of_le lP hbq.size; replace FZ := Sev.keep FZ hbq lZ; replace lZ := Nat.lt_of_lt_of_le lZ hbq.size; replace hb12 := bt hb12 hbq; clear s0 s1 s2 s3 s4 s5 s6 p0 p1 p2 p3 p4 p5 p6 z0 z1 z2 z3 z4 z5 z6 hbq; obtain ⟨s0, s1, s2, s3, s4, s5, s6⟩ := id FS; obtain ⟨p0, p1, p2, p3, p4, p5, p6⟩ := id FP; obtain ⟨z0, z1, z2, z3, z4, z5, z6, -, -, -, -, -, -, -⟩ := id FZ)
      clear q0 q1 q2 q3 q4 q5 q6 FT2 HAN
      clear FS lS s0 s1 s2 s3 s4 s5 s6
      obtain ⟨v4, v5, v6, v7⟩ := HV2.out
      have HZP := Lib.hid (fun (hP : P = noAnc) W (hW : Below w11.heap.size w11 W) => zero_true pv W (HPI5.out.next hW) (HPD.out.trans hP))
      have HRA := Lib.hid (show ∀ (cb : Bool), (cb = true ↔ anc.Good z d s l x.d) → ∀ W, Below w.heap.size w W → Calls Tryd.prog 19 #[.agg #[.int .i64 z, .int .i64 d, .int .i64 s, .int .i64 l, .int .i64 a], .agg #[.int .i64 x.gen, .int .i64 x.ep, .int .i64 x.pos, .int .i64 x.seq, .int .i64 x.last, .string x.lab, .slice x.HA x.hs.length x.hc]] W fun e' w' => e' = .returned (.bool cb) ∧ Below W.heap.size W w' from fun cb hcb W hW => right_p z d s l a cb x W HO.out (HX.out.next hW) (by omega) (fun r hr => Nat.le_trans (t3 r hr) (by omega)) (by omega) hcb)
      clear HV2
      by_cases hna : (n : Int) = a
      case neg =>
        obtain ⟨hP, rfl, rfl⟩ := v4 HO.out hna
        have hn1 : ((n : Int) != a) = true := bne_iff_ne.2 hna
        have HZ1 := Lib.hid (HZP.out hP)
        clear hna hP v4 v5
        go_upto_region 26 with (go_at_call 15; (with_reducible refine (HZ1.out _ hb12).mono ?_); rintro e' wq ⟨rfl, hbq⟩; replace FF := FF.keep hbq (by omega); replace GG := GG.keep hbq (by omega); replace XX := XX.keep hbq (by omega); replace l1 := Nat.lt_of_lt_of_le l1 hbq.size; clear c0 c1 c2 c3 c4 c5 c6 g0 g1 g2 g3 g4 x0 x1; obtain ⟨c0, c1, c2, c3, c4, c5, c6⟩ := id FF; obtain ⟨g0, g1, g2, g3, g4⟩ := id GG; obtain ⟨x0, x1, -, -⟩ := id XX; replace hb0 := bt hb0 hbq; replace FP := FP.keep hbq lP; replace lP := Nat.lt_of_lt_of_le lP hbq.size; replace FZ := Sev.keep FZ hbq lZ; replace lZ := Nat.lt_of_lt_of_le lZ hbq.size; replace hb12 := bt hb12 hbq; clear p0 p1 p2 p3 p4 p5 p6 z0 z1 z2 z3 z4 z5 z6 hbq; obtain ⟨p0, p1, p2, p3, p4, p5, p6⟩ := id FP; obtain ⟨z0, z1, z2, z3, z4, z5, z6, -, -, -, -, -, -, -⟩ := id FZ)
        clear p0 p1 p2 p3 p4 p5 p6 z0 z1 z2 z3 z4 z5 z6 FP FZ lP lZ
        by_cases hgx : anc.Good z d s l x.d
        case neg =>
          obtain ⟨rfl, rfl⟩ := v7 (fun h => hgx h.2.1)
          have HR0 := Lib.hid (HRA.out false (iff_of_false Bool.false_ne_true hgx))
          clear v6 v7 hgx HRA
          go_wp2_with (first
            | (go_at_call 19; (with_reducible refine (HR0.out _ hb0).mono ?_); rintro e' wq ⟨rfl, hbq⟩; replace FF := FF.keep hbq (by omega); replace GG := GG.keep hbq (by omega); replace XX := XX.keep hbq (by omega); replace l1 := Nat.lt_of_lt_of_le l1 hbq.size; clear c0 c1 c2 c3 c4 c5 c6 g0 g1 g2 g3 g4 x0 x1; obtain ⟨c0, c1, c2, c3, c4, c5, c6⟩ := id FF; obtain ⟨g0, g1, g2, g3, g4⟩ := id GG; obtain ⟨x0, x1, -, -⟩ := id XX; replace hb0 := bt hb0 hbq; replace hb12 := bt hb12 hbq; clear hbq)
            | (go_at_call 16; (with_reducible refine (HWK.out _ hb0).mono ?_); rintro e' wz ⟨rfl, hbz⟩))
          go_ret
          exact ⟨rfl, bt hb0 hbz⟩
        have HR0 := Lib.hid (HRA.out true (iff_of_true rfl hgx))
        clear HRA
        by_cases hi0 : i < 0
        case pos =>
          obtain ⟨rfl, rfl⟩ := v7 (fun h => by omega)
          clear v6 v7 hgx
          go_wp2_with (first
            | (go_at_call 19; (with_reducible refine (HR0.out _ hb0).mono ?_); rintro e' wq ⟨rfl, hbq⟩; replace FF := FF.keep hbq (by omega); replace GG := GG.keep hbq (by omega); replace XX := XX.keep hbq (by omega); replace l1 := Nat.lt_of_lt_of_le l1 hbq.size; clear c0 c1 c2 c3 c4 c5 c6 g0 g1 g2 g3 g4 x0 x1; obtain ⟨c0, c1, c2, c3, c4, c5, c6⟩ := id FF; obtain ⟨g0, g1, g2, g3, g4⟩ := id GG; obtain ⟨x0, x1, -, -⟩ := id XX; replace hb0 := bt hb0 hbq; replace hb12 := bt hb12 hbq; clear hbq)
            | (go_at_call 16; (with_reducible refine (HWK.out _ hb0).mono ?_); rintro e' wz ⟨rfl, hbz⟩))
          go_ret
          exact ⟨rfl, bt hb0 hbz⟩
        by_cases hia : i < a
        case neg =>
          obtain ⟨rfl, rfl⟩ := v7 (fun h => hia h.2.2.2)
          clear v6 v7 hgx
          go_wp2_with (first
            | (go_at_call 19; (with_reducible refine (HR0.out _ hb0).mono ?_); rintro e' wq ⟨rfl, hbq⟩; replace FF := FF.keep hbq (by omega); replace GG := GG.keep hbq (by omega); replace XX := XX.keep hbq (by omega); replace l1 := Nat.lt_of_lt_of_le l1 hbq.size; clear c0 c1 c2 c3 c4 c5 c6 g0 g1 g2 g3 g4 x0 x1; obtain ⟨c0, c1, c2, c3, c4, c5, c6⟩ := id FF; obtain ⟨g0, g1, g2, g3, g4⟩ := id GG; obtain ⟨x0, x1, -, -⟩ := id XX; replace hb0 := bt hb0 hbq; replace hb12 := bt hb12 hbq; clear hbq)
            | (go_at_call 16; (with_reducible refine (HWK.out _ hb0).mono ?_); rintro e' wz ⟨rfl, hbz⟩))
          go_ret
          exact ⟨rfl, bt hb0 hbz⟩
        obtain ⟨I, rfl⟩ : ∃ I : Nat, i = I := ⟨i.toNat, by omega⟩
        obtain ⟨rfl, hcq, hcl⟩ := v6 ⟨HO.out, hgx, by omega, hia⟩
        rw [Int.toNat_natCast] at hcl
        have hlen : cl.length = cq := by rw [hcl, hcq, enc_length]
        have h107 : cq ≤ 107 := by have := (enc96 HO.out hgx).1; omega
        have HAC := Lib.hid (show ∀ W, Below w.heap.size w W → Calls Tryd.prog 21 #[.agg #[.int .i64 x.gen, .int .i64 x.ep, .int .i64 x.pos, .int .i64 x.seq, .int .i64 x.last, .string x.lab, .slice x.HA x.hs.length x.hc], .int .i64 I] W fun e' w' => BytA cq cl e' w' ∧ Below W.heap.size W w' from fun W hW => by
          have h9 := ranchor_cell z d s l a x I W HO.out (HX.out.next hW) hgx (by have := HO.out.2.2.2.2; omega)
          rw [← hcq, ← hcl] at h9
          exact h9)
        have HKB := Lib.hid (show ∀ (W : World) (Y : Option Addr) (y2 : Nat), Lies W Z zv cl → Lies W Y y2 cl → Calls Tryd.prog 20 #[.slice Z cq zv, .slice Y cq y2] W fun e' w' => e' = .returned (.bool true) ∧ Below W.heap.size W w' from fun W Y y2 h1 h2 => by
          have h9 := keep_short Z Y zv y2 W.heap.size W.heap.size cl cl W rfl h1.2.2 h2.2.2 (Nat.le_refl _) (Nat.le_refl _) (by omega)
          rw [hlen, decide_eq_true rfl] at h9
          exact h9)
        have HZ3 := Lib.hid (HZL2.out rfl)
        clear v6 v7 hgx hcq hcl hlen h107 HZL2
        go_wp2_with (first
          | (go_at_call 19; (with_reducible refine (HR0.out _ hb0).mono ?_); rintro e' wq ⟨rfl, hbq⟩; replace FF := FF.keep hbq (by omega); replace GG := GG.keep hbq (by omega); replace XX := XX.keep hbq (by omega); replace l1 := Nat.lt_of_lt_of_le l1 hbq.size; clear c0 c1 c2 c3 c4 c5 c6 g0 g1 g2 g3 g4 x0 x1; obtain ⟨c0, c1, c2, c3, c4, c5, c6⟩ := id FF; obtain ⟨g0, g1, g2, g3, g4⟩ := id GG; obtain ⟨x0, x1, -, -⟩ := id XX; replace hb0 := bt hb0 hbq; replace hb12 := bt hb12 hbq; clear hbq)
          | (go_at_call 21; (with_reducible refine (HAC.out _ hb0).mono ?_); rintro e' wq ⟨⟨Y3, y3, rfl, hy3⟩, hbq⟩; replace FF := FF.keep hbq (by omega); replace GG := GG.keep hbq (by omega); replace XX := XX.keep hbq (by omega); replace l1 := Nat.lt_of_lt_of_le l1 hbq.size; clear c0 c1 c2 c3 c4 c5 c6 g0 g1 g2 g3 g4 x0 x1; obtain ⟨c0, c1, c2, c3, c4, c5, c6⟩ := id FF; obtain ⟨g0, g1, g2, g3, g4⟩ := id GG; obtain ⟨x0, x1, -, -⟩ := id XX; replace hb0 := bt hb0 hbq; replace hb12 := bt hb12 hbq; clear hbq)
          | (go_at_call 20; (with_reducible refine (HKB.out _ _ _ (lies_nx HZ3.out hb12) hy3).mono ?_); rintro e' wq ⟨rfl, hbq⟩; replace FF := FF.keep hbq (by omega); replace GG := GG.keep hbq (by omega); replace XX := XX.keep hbq (by omega); replace l1 := Nat.lt_of_lt_of_le l1 hbq.size; clear c0 c1 c2 c3 c4 c5 c6 g0 g1 g2 g3 g4 x0 x1; obtain ⟨c0, c1, c2, c3, c4, c5, c6⟩ := id FF; obtain ⟨g0, g1, g2, g3, g4⟩ := id GG; obtain ⟨x0, x1, -, -⟩ := id XX; replace hb0 := bt hb0 hbq; replace hb12 := bt hb12 hbq; clear hbq)
          | (go_at_call 16; (with_reducible refine (HWK.out _ hb0).mono ?_); rintro e' wz ⟨rfl, hbz⟩))
        go_ret
        exact ⟨rfl, bt hb0 hbz⟩
      obtain ⟨hP, hpi, hpe⟩ := v5 HO.out hna
      have hn1 : ((n : Int) != a) = false := by rw [hna]; exact bne_self_eq_false _
      obtain ⟨N, hNN⟩ : ∃ N, N = newN (sayAt z d s l (gds rs)) n := ⟨_, rfl⟩
      rw [← hNN] at hP hpi hpe
      have HNQ := Lib.hid (show ∀ W, Below w.heap.size w W → Calls Tryd.prog 18 #[.agg #[.int .i64 z, .int .i64 d, .int .i64 s, .int .i64 l, .int .i64 a], .slice A n c] W fun e' w' => NewQ W.heap.size N e' w' ∧ Below W.heap.size W w' from fun W hW => by
        rw [hNN]
        exact rnewest_any z d s l a A n c rs W HO.out HN.out (HA.out.next hW) (HR.out.next hW) (by have := HN.out; omega))
      clear hna v4 v5
      rcases N with _ | ⟨Y, j⟩
      case none =>
        replace hpi : pi = 0 := hpi
        replace hpe : pe = 11 := hpe
        subst hpi hpe
        have HZ1 := Lib.hid (HZP.out hP)
        have HNR := Lib.hid (show ∀ W, Below w.heap.size w W → Calls Tryd.prog 18 #[.agg #[.int .i64 z, .int .i64 d, .int .i64 s, .int .i64 l, .int .i64 a], .slice A n c] W fun e' w' => (∃ y : AV, e' = .returned (.tuple #[.agg #[.int .i64 y.gen, .int .i64 y.ep, .int .i64 y.pos, .int .i64 y.seq, .int .i64 y.last, .string y.lab, .slice y.HA y.hs.length y.hc], .int .i64 (-1)])) ∧ Below W.heap.size W w' from fun W hW => (HNQ.out W hW).mono fun e' w' h => ⟨by obtain ⟨⟨y, h1, -⟩, -⟩ := h; exact ⟨y, h1⟩, h.2⟩)
        clear hP hNN HNQ
        go_upto_region 21 with (go_at_call 18; (with_reducible refine (HNR.out _ hb0).mono ?_); rintro e' w16 ⟨⟨nv, rfl⟩, hbq⟩; replace FF := FF.keep hbq (by omega); replace GG := GG.keep hbq (by omega); replace XX := XX.keep hbq (by omega); replace l1 := Nat.lt_of_lt_of_le l1 hbq.size; clear c0 c1 c2 c3 c4 c5 c6 g0 g1 g2 g3 g4 x0 x1; obtain ⟨c0, c1, c2, c3, c4, c5, c6⟩ := id FF; obtain ⟨g0, g1, g2, g3, g4⟩ := id GG; obtain ⟨x0, x1, -, -⟩ := id XX; replace hb0 := bt hb0 hbq; replace FP := FP.keep hbq lP; replace lP := Nat.lt_of_lt_of_le lP hbq.size; replace FZ := Sev.keep FZ hbq lZ; replace lZ := Nat.lt_of_lt_of_le lZ hbq.size; replace hb12 := bt hb12 hbq; clear p0 p1 p2 p3 p4 p5 p6 z0 z1 z2 z3 z4 z5 z6 hbq; obtain ⟨p0, p1, p2, p3, p4, p5, p6⟩ := id FP; obtain ⟨z0, z1, z2, z3, z4, z5, z6, -, -, -, -, -, -, -⟩ := id FZ)
        have hbq := bl w16 (.cells #[.int .i64 nv.gen, .int .i64 nv.ep, .int .i64 nv.pos, .int .i64 nv.seq, .int .i64 nv.last, .string nv.lab, .slice nv.HA nv.hs.length nv.hc] 31)
        replace FF := FF.keep hbq (by omega); replace GG := GG.keep hbq (by omega); replace XX := XX.keep hbq (by omega); replace l1 := Nat.lt_of_lt_of_le l1 hbq.size; clear c0 c1 c2 c3 c4 c5 c6 g0 g1 g2 g3 g4 x0 x1; obtain ⟨c0, c1, c2, c3, c4, c5, c6⟩ := id FF; obtain ⟨g0, g1, g2, g3, g4⟩ := id GG; obtain ⟨x0, x1, -, -⟩ := id XX; replace hb0 := bt hb0 hbq; replace FP := FP.keep hbq lP; replace lP := Nat.lt_of_lt_of_le lP hbq.size; replace FZ := Sev.keep FZ hbq lZ; replace lZ := Nat.lt_of_lt_of_le lZ hbq.size; replace hb12 := bt hb12 hbq; clear p0 p1 p2 p3 p4 p5 p6 z0 z1 z2 z3 z4 z5 z6 hbq; obtain ⟨p0, p1, p2, p3, p4, p5, p6⟩ := id FP; obtain ⟨z0, z1, z2, z3, z4, z5, z6, -, -, -, -, -, -, -⟩ := id FZ
        generalize w16.alloc (.cells #[.int .i64 nv.gen, .int .i64 nv.ep, .int .i64 nv.pos, .int .i64 nv.seq, .int .i64 nv.last, .string nv.lab, .slice nv.HA nv.hs.length nv.hc] 31) = w17 at *
        clear HNR
        go_upto_region 26 with (go_at_call 15; (with_reducible refine (HZ1.out _ hb12).mono ?_); rintro e' wq ⟨rfl, hbq⟩; replace FF := FF.keep hbq (by omega); replace GG := GG.keep hbq (by omega); replace XX := XX.keep hbq (by omega); replace l1 := Nat.lt_of_lt_of_le l1 hbq.size; clear c0 c1 c2 c3 c4 c5 c6 g0 g1 g2 g3 g4 x0 x1; obtain ⟨c0, c1, c2, c3, c4, c5, c6⟩ := id FF; obtain ⟨g0, g1, g2, g3, g4⟩ := id GG; obtain ⟨x0, x1, -, -⟩ := id XX; replace hb0 := bt hb0 hbq; replace FP := FP.keep hbq lP; replace lP := Nat.lt_of_lt_of_le lP hbq.size; replace FZ := Sev.keep FZ hbq lZ; replace lZ := Nat.lt_of_lt_of_le lZ hbq.size; replace hb12 := bt hb12 hbq; clear p0 p1 p2 p3 p4 p5 p6 z0 z1 z2 z3 z4 z5 z6 hbq; obtain ⟨p0, p1, p2, p3, p4, p5, p6⟩ := id FP; obtain ⟨z0, z1, z2, z3, z4, z5, z6, -, -, -, -, -, -, -⟩ := id FZ)
        clear p0 p1 p2 p3 p4 p5 p6 z0 z1 z2 z3 z4 z5 z6 FP FZ lP lZ
        by_cases hgx : anc.Good z d s l x.d
        case neg =>
          obtain ⟨rfl, rfl⟩ := v7 (fun h => hgx h.2.1)
          have HR0 := Lib.hid (HRA.out false (iff_of_false Bool.false_ne_true hgx))
          clear v6 v7 hgx HRA
          go_wp2_with (first
            | (go_at_call 19; (with_reducible refine (HR0.out _ hb0).mono ?_); rintro e' wq ⟨rfl, hbq⟩; replace FF := FF.keep hbq (by omega); replace GG := GG.keep hbq (by omega); replace XX := XX.keep hbq (by omega); replace l1 := Nat.lt_of_lt_of_le l1 hbq.size; clear c0 c1 c2 c3 c4 c5 c6 g0 g1 g2 g3 g4 x0 x1; obtain ⟨c0, c1, c2, c3, c4, c5, c6⟩ := id FF; obtain ⟨g0, g1, g2, g3, g4⟩ := id GG; obtain ⟨x0, x1, -, -⟩ := id XX; replace hb0 := bt hb0 hbq; replace hb12 := bt hb12 hbq; clear hbq)
            | (go_at_call 16; (with_reducible refine (HWK.out _ hb0).mono ?_); rintro e' wz ⟨rfl, hbz⟩))
          go_ret
          exact ⟨rfl, bt hb0 hbz⟩
        have HR0 := Lib.hid (HRA.out true (iff_of_true rfl hgx))
        clear HRA
        by_cases hi0 : i < 0
        case pos =>
          obtain ⟨rfl, rfl⟩ := v7 (fun h => by omega)
          clear v6 v7 hgx
          go_wp2_with (first
            | (go_at_call 19; (with_reducible refine (HR0.out _ hb0).mono ?_); rintro e' wq ⟨rfl, hbq⟩; replace FF := FF.keep hbq (by omega); replace GG := GG.keep hbq (by omega); replace XX := XX.keep hbq (by omega); replace l1 := Nat.lt_of_lt_of_le l1 hbq.size; clear c0 c1 c2 c3 c4 c5 c6 g0 g1 g2 g3 g4 x0 x1; obtain ⟨c0, c1, c2, c3, c4, c5, c6⟩ := id FF; obtain ⟨g0, g1, g2, g3, g4⟩ := id GG; obtain ⟨x0, x1, -, -⟩ := id XX; replace hb0 := bt hb0 hbq; replace hb12 := bt hb12 hbq; clear hbq)
            | (go_at_call 16; (with_reducible refine (HWK.out _ hb0).mono ?_); rintro e' wz ⟨rfl, hbz⟩))
          go_ret
          exact ⟨rfl, bt hb0 hbz⟩
        by_cases hia : i < a
        case neg =>
          obtain ⟨rfl, rfl⟩ := v7 (fun h => hia h.2.2.2)
          clear v6 v7 hgx
          go_wp2_with (first
            | (go_at_call 19; (with_reducible refine (HR0.out _ hb0).mono ?_); rintro e' wq ⟨rfl, hbq⟩; replace FF := FF.keep hbq (by omega); replace GG := GG.keep hbq (by omega); replace XX := XX.keep hbq (by omega); replace l1 := Nat.lt_of_lt_of_le l1 hbq.size; clear c0 c1 c2 c3 c4 c5 c6 g0 g1 g2 g3 g4 x0 x1; obtain ⟨c0, c1, c2, c3, c4, c5, c6⟩ := id FF; obtain ⟨g0, g1, g2, g3, g4⟩ := id GG; obtain ⟨x0, x1, -, -⟩ := id XX; replace hb0 := bt hb0 hbq; replace hb12 := bt hb12 hbq; clear hbq)
            | (go_at_call 16; (with_reducible refine (HWK.out _ hb0).mono ?_); rintro e' wz ⟨rfl, hbz⟩))
          go_ret
          exact ⟨rfl, bt hb0 hbz⟩
        obtain ⟨I, rfl⟩ : ∃ I : Nat, i = I := ⟨i.toNat, by omega⟩
        obtain ⟨rfl, hcq, hcl⟩ := v6 ⟨HO.out, hgx, by omega, hia⟩
        rw [Int.toNat_natCast] at hcl
        have hlen : cl.length = cq := by rw [hcl, hcq, enc_length]
        have h107 : cq ≤ 107 := by have := (enc96 HO.out hgx).1; omega
        have HAC := Lib.hid (show ∀ W, Below w.heap.size w W → Calls Tryd.prog 21 #[.agg #[.int .i64 x.gen, .int .i64 x.ep, .int .i64 x.pos, .int .i64 x.seq, .int .i64 x.last, .string x.lab, .slice x.HA x.hs.length x.hc], .int .i64 I] W fun e' w' => BytA cq cl e' w' ∧ Below W.heap.size W w' from fun W hW => by
          have h9 := ranchor_cell z d s l a x I W HO.out (HX.out.next hW) hgx (by have := HO.out.2.2.2.2; omega)
          rw [← hcq, ← hcl] at h9
          exact h9)
        have HKB := Lib.hid (show ∀ (W : World) (Y : Option Addr) (y2 : Nat), Lies W Z zv cl → Lies W Y y2 cl → Calls Tryd.prog 20 #[.slice Z cq zv, .slice Y cq y2] W fun e' w' => e' = .returned (.bool true) ∧ Below W.heap.size W w' from fun W Y y2 h1 h2 => by
          have h9 := keep_short Z Y zv y2 W.heap.size W.heap.size cl cl W rfl h1.2.2 h2.2.2 (Nat.le_refl _) (Nat.le_refl _) (by omega)
          rw [hlen, decide_eq_true rfl] at h9
          exact h9)
        have HZ3 := Lib.hid (HZL2.out rfl)
        clear v6 v7 hgx hcq hcl hlen h107 HZL2
        go_wp2_with (first
          | (go_at_call 19; (with_reducible refine (HR0.out _ hb0).mono ?_); rintro e' wq ⟨rfl, hbq⟩; replace FF := FF.keep hbq (by omega); replace GG := GG.keep hbq (by omega); replace XX := XX.keep hbq (by omega); replace l1 := Nat.lt_of_lt_of_le l1 hbq.size; clear c0 c1 c2 c3 c4 c5 c6 g0 g1 g2 g3 g4 x0 x1; obtain ⟨c0, c1, c2, c3, c4, c5, c6⟩ := id FF; obtain ⟨g0, g1, g2, g3, g4⟩ := id GG; obtain ⟨x0, x1, -, -⟩ := id XX; replace hb0 := bt hb0 hbq; replace hb12 := bt hb12 hbq; clear hbq)
          | (go_at_call 21; (with_reducible refine (HAC.out _ hb0).mono ?_); rintro e' wq ⟨⟨Y3, y3, rfl, hy3⟩, hbq⟩; replace FF := FF.keep hbq (by omega); replace GG := GG.keep hbq (by omega); replace XX := XX.keep hbq (by omega); replace l1 := Nat.lt_of_lt_of_le l1 hbq.size; clear c0 c1 c2 c3 c4 c5 c6 g0 g1 g2 g3 g4 x0 x1; obtain ⟨c0, c1, c2, c3, c4, c5, c6⟩ := id FF; obtain ⟨g0, g1, g2, g3, g4⟩ := id GG; obtain ⟨x0, x1, -, -⟩ := id XX; replace hb0 := bt hb0 hbq; replace hb12 := bt hb12 hbq; clear hbq)
          | (go_at_call 20; (with_reducible refine (HKB.out _ _ _ (lies_nx HZ3.out hb12) hy3).mono ?_); rintro e' wq ⟨rfl, hbq⟩; replace FF := FF.keep hbq (by omega); replace GG := GG.keep hbq (by omega); replace XX := XX.keep hbq (by omega); replace l1 := Nat.lt_of_lt_of_le l1 hbq.size; clear c0 c1 c2 c3 c4 c5 c6 g0 g1 g2 g3 g4 x0 x1; obtain ⟨c0, c1, c2, c3, c4, c5, c6⟩ := id FF; obtain ⟨g0, g1, g2, g3, g4⟩ := id GG; obtain ⟨x0, x1, -, -⟩ := id XX; replace hb0 := bt hb0 hbq; replace hb12 := bt hb12 hbq; clear hbq)
          | (go_at_call 16; (with_reducible refine (HWK.out _ hb0).mono ?_); rintro e' wz ⟨rfl, hbz⟩))
        go_ret
        exact ⟨rfl, bt hb0 hbz⟩
      case some =>
        replace hpi : pi = (j : Int) := hpi
        replace hpe : pe = 0 := hpe
        subst hpi hpe
        have hsY : Y.hs.length ≤ 1048576 ∧ ∀ h ∈ Y.hs, h.ps.length ≤ 1048576 := by
          obtain ⟨hj, hfj⟩ := newN_lt hNN.symm
          have hl : j < (gds rs).length := by rw [gds_length]; have := HN.out; omega
          rw [sayAt_get (List.getElem?_eq_getElem hl)] at hfj
          exact say_short HO.out hfj.symm
        have hPY : P = Y := hP
        have HNR := Lib.hid (show ∀ W, Below w.heap.size w W → Calls Tryd.prog 18 #[.agg #[.int .i64 z, .int .i64 d, .int .i64 s, .int .i64 l, .int .i64 a], .slice A n c] W fun e' w' => (∃ y : AV, e' = .returned (.tuple #[.agg #[.int .i64 y.gen, .int .i64 y.ep, .int .i64 y.pos, .int .i64 y.seq, .int .i64 y.last, .string y.lab, .slice y.HA y.hs.length y.hc], .int .i64 j]) ∧ y.d = Y ∧ y.In w' w'.heap.size) ∧ Below W.heap.size W w' from fun W hW => (HNQ.out W hW).mono fun e' w' h => ⟨by obtain ⟨⟨y, h1, h2, h3⟩, -⟩ := h; exact ⟨y, h1, h2, AV.Own.inn h3⟩, h.2⟩)
        have HSY := Lib.hid hsY
        have HPY := Lib.hid (HPD.out.trans hPY)
        have j1 : ¬ (j : Int) < 0 := by omega
        have j2 : ((j : Int) != j) = false := bne_self_eq_false _
        clear hP hNN HNQ hPY hsY HZP
        go_upto_region 21 with (go_at_call 18; (with_reducible refine (HNR.out _ hb0).mono ?_); rintro e' w16 ⟨⟨nv, rfl, hnd, hni⟩, hbq⟩; replace FF := FF.keep hbq (by omega); replace GG := GG.keep hbq (by omega); replace XX := XX.keep hbq (by omega); replace l1 := Nat.lt_of_lt_of_le l1 hbq.size; clear c0 c1 c2 c3 c4 c5 c6 g0 g1 g2 g3 g4 x0 x1; obtain ⟨c0, c1, c2, c3, c4, c5, c6⟩ := id FF; obtain ⟨g0, g1, g2, g3, g4⟩ := id GG; obtain ⟨x0, x1, -, -⟩ := id XX; replace hb0 := bt hb0 hbq; replace FP := FP.keep hbq lP; replace lP := Nat.lt_of_lt_of_le lP hbq.size; replace FZ := Sev.keep FZ hbq lZ; replace lZ := Nat.lt_of_lt_of_le lZ hbq.size; replace hb12 := bt hb12 hbq; clear p0 p1 p2 p3 p4 p5 p6 z0 z1 z2 z3 z4 z5 z6 hbq; obtain ⟨p0, p1, p2, p3, p4, p5, p6⟩ := id FP; obtain ⟨z0, z1, z2, z3, z4, z5, z6, -, -, -, -, -, -, -⟩ := id FZ)
        have FN := ac_new w16 nv
        have hbq := bl w16 (.cells #[.int .i64 nv.gen, .int .i64 nv.ep, .int .i64 nv.pos, .int .i64 nv.seq, .int .i64 nv.last, .string nv.lab, .slice nv.HA nv.hs.length nv.hc] 31)
        have HNI := Lib.hid (hni.next hbq)
        have HND := Lib.hid hnd
        replace FF := FF.keep hbq (by omega); replace GG := GG.keep hbq (by omega); replace XX := XX.keep hbq (by omega); replace l1 := Nat.lt_of_lt_of_le l1 hbq.size; clear c0 c1 c2 c3 c4 c5 c6 g0 g1 g2 g3 g4 x0 x1; obtain ⟨c0, c1, c2, c3, c4, c5, c6⟩ := id FF; obtain ⟨g0, g1, g2, g3, g4⟩ := id GG; obtain ⟨x0, x1, -, -⟩ := id XX; replace hb0 := bt hb0 hbq; replace FP := FP.keep hbq lP; replace lP := Nat.lt_of_lt_of_le lP hbq.size; replace FZ := Sev.keep FZ hbq lZ; replace lZ := Nat.lt_of_lt_of_le lZ hbq.size; replace hb12 := bt hb12 hbq; clear p0 p1 p2 p3 p4 p5 p6 z0 z1 z2 z3 z4 z5 z6 hbq; obtain ⟨p0, p1, p2, p3, p4, p5, p6⟩ := id FP; obtain ⟨z0, z1, z2, z3, z4, z5, z6, -, -, -, -, -, -, -⟩ := id FZ
        clear HNR hni hnd
        obtain ⟨gN, hgN⟩ : ∃ g, g = w16.heap.size := ⟨_, rfl⟩
        rw [← hgN] at FN ⊢
        clear hgN
        generalize w16.alloc (.cells #[.int .i64 nv.gen, .int .i64 nv.ep, .int .i64 nv.pos, .int .i64 nv.seq, .int .i64 nv.last, .string nv.lab, .slice nv.HA nv.hs.length nv.hc] 31) = w17 at *
        have HAN := Lib.hid (fun W (hW : Below w11.heap.size w11 W) (hW2 : Below w17.heap.size w17 W) => an_same pv nv Y W (HPI5.out.next hW) (HNI.out.next hW2) HPY.out HND.out HSY.out)
        obtain ⟨n0, n1, n2, n3, n4, n5, n6⟩ := id FN
        go_upto_region 26 with (go_at_call 15; (with_reducible refine (HAN.out _ hb12 (Below.refl _ _)).mono ?_); rintro e' wq ⟨rfl, hbq⟩; replace FF := FF.keep hbq (by omega); replace GG := GG.keep hbq (by omega); replace XX := XX.keep hbq (by omega); replace l1 := Nat.lt_of_lt_of_le l1 hbq.size; clear c0 c1 c2 c3 c4 c5 c6 g0 g1 g2 g3 g4 x0 x1; obtain ⟨c0, c1, c2, c3, c4, c5, c6⟩ := id FF; obtain ⟨g0, g1, g2, g3, g4⟩ := id GG; obtain ⟨x0, x1, -, -⟩ := id XX; replace hb0 := bt hb0 hbq; replace FP := FP.keep hbq lP; replace lP := Nat.lt_of_lt_of_le lP hbq.size; replace FZ := Sev.keep FZ hbq lZ; replace lZ := Nat.lt_of_lt_of_le lZ hbq.size; replace hb12 := bt hb12 hbq; clear p0 p1 p2 p3 p4 p5 p6 z0 z1 z2 z3 z4 z5 z6 hbq; obtain ⟨p0, p1, p2, p3, p4, p5, p6⟩ := id FP; obtain ⟨z0, z1, z2, z3, z4, z5, z6, -, -, -, -, -, -, -⟩ := id FZ)
        clear n0 n1 n2 n3 n4 n5 n6 FN HAN HNI HND HSY HPY
        clear p0 p1 p2 p3 p4 p5 p6 z0 z1 z2 z3 z4 z5 z6 FP FZ lP lZ
        by_cases hgx : anc.Good z d s l x.d
        case neg =>
          obtain ⟨rfl, rfl⟩ := v7 (fun h => hgx h.2.1)
          have HR0 := Lib.hid (HRA.out false (iff_of_false Bool.false_ne_true hgx))
          clear v6 v7 hgx HRA
          go_wp2_with (first
            | (go_at_call 19; (with_reducible refine (HR0.out _ hb0).mono ?_); rintro e' wq ⟨rfl, hbq⟩; replace FF := FF.keep hbq (by omega); replace GG := GG.keep hbq (by omega); replace XX := XX.keep hbq (by omega); replace l1 := Nat.lt_of_lt_of_le l1 hbq.size; clear c0 c1 c2 c3 c4 c5 c6 g0 g1 g2 g3 g4 x0 x1; obtain ⟨c0, c1, c2, c3, c4, c5, c6⟩ := id FF; obtain ⟨g0, g1, g2, g3, g4⟩ := id GG; obtain ⟨x0, x1, -, -⟩ := id XX; replace hb0 := bt hb0 hbq; replace hb12 := bt hb12 hbq; clear hbq)
            | (go_at_call 16; (with_reducible refine (HWK.out _ hb0).mono ?_); rintro e' wz ⟨rfl, hbz⟩))
          go_ret
          exact ⟨rfl, bt hb0 hbz⟩
        have HR0 := Lib.hid (HRA.out true (iff_of_true rfl hgx))
        clear HRA
        by_cases hi0 : i < 0
        case pos =>
          obtain ⟨rfl, rfl⟩ := v7 (fun h => by omega)
          clear v6 v7 hgx
          go_wp2_with (first
            | (go_at_call 19; (with_reducible refine (HR0.out _ hb0).mono ?_); rintro e' wq ⟨rfl, hbq⟩; replace FF := FF.keep hbq (by omega); replace GG := GG.keep hbq (by omega); replace XX := XX.keep hbq (by omega); replace l1 := Nat.lt_of_lt_of_le l1 hbq.size; clear c0 c1 c2 c3 c4 c5 c6 g0 g1 g2 g3 g4 x0 x1; obtain ⟨c0, c1, c2, c3, c4, c5, c6⟩ := id FF; obtain ⟨g0, g1, g2, g3, g4⟩ := id GG; obtain ⟨x0, x1, -, -⟩ := id XX; replace hb0 := bt hb0 hbq; replace hb12 := bt hb12 hbq; clear hbq)
            | (go_at_call 16; (with_reducible refine (HWK.out _ hb0).mono ?_); rintro e' wz ⟨rfl, hbz⟩))
          go_ret
          exact ⟨rfl, bt hb0 hbz⟩
        by_cases hia : i < a
        case neg =>
          obtain ⟨rfl, rfl⟩ := v7 (fun h => hia h.2.2.2)
          clear v6 v7 hgx
          go_wp2_with (first
            | (go_at_call 19; (with_reducible refine (HR0.out _ hb0).mono ?_); rintro e' wq ⟨rfl, hbq⟩; replace FF := FF.keep hbq (by omega); replace GG := GG.keep hbq (by omega); replace XX := XX.keep hbq (by omega); replace l1 := Nat.lt_of_lt_of_le l1 hbq.size; clear c0 c1 c2 c3 c4 c5 c6 g0 g1 g2 g3 g4 x0 x1; obtain ⟨c0, c1, c2, c3, c4, c5, c6⟩ := id FF; obtain ⟨g0, g1, g2, g3, g4⟩ := id GG; obtain ⟨x0, x1, -, -⟩ := id XX; replace hb0 := bt hb0 hbq; replace hb12 := bt hb12 hbq; clear hbq)
            | (go_at_call 16; (with_reducible refine (HWK.out _ hb0).mono ?_); rintro e' wz ⟨rfl, hbz⟩))
          go_ret
          exact ⟨rfl, bt hb0 hbz⟩
        obtain ⟨I, rfl⟩ : ∃ I : Nat, i = I := ⟨i.toNat, by omega⟩
        obtain ⟨rfl, hcq, hcl⟩ := v6 ⟨HO.out, hgx, by omega, hia⟩
        rw [Int.toNat_natCast] at hcl
        have hlen : cl.length = cq := by rw [hcl, hcq, enc_length]
        have h107 : cq ≤ 107 := by have := (enc96 HO.out hgx).1; omega
        have HAC := Lib.hid (show ∀ W, Below w.heap.size w W → Calls Tryd.prog 21 #[.agg #[.int .i64 x.gen, .int .i64 x.ep, .int .i64 x.pos, .int .i64 x.seq, .int .i64 x.last, .string x.lab, .slice x.HA x.hs.length x.hc], .int .i64 I] W fun e' w' => BytA cq cl e' w' ∧ Below W.heap.size W w' from fun W hW => by
          have h9 := ranchor_cell z d s l a x I W HO.out (HX.out.next hW) hgx (by have := HO.out.2.2.2.2; omega)
          rw [← hcq, ← hcl] at h9
          exact h9)
        have HKB := Lib.hid (show ∀ (W : World) (Y : Option Addr) (y2 : Nat), Lies W Z zv cl → Lies W Y y2 cl → Calls Tryd.prog 20 #[.slice Z cq zv, .slice Y cq y2] W fun e' w' => e' = .returned (.bool true) ∧ Below W.heap.size W w' from fun W Y y2 h1 h2 => by
          have h9 := keep_short Z Y zv y2 W.heap.size W.heap.size cl cl W rfl h1.2.2 h2.2.2 (Nat.le_refl _) (Nat.le_refl _) (by omega)
          rw [hlen, decide_eq_true rfl] at h9
          exact h9)
        have HZ3 := Lib.hid (HZL2.out rfl)
        clear v6 v7 hgx hcq hcl hlen h107 HZL2
        go_wp2_with (first
          | (go_at_call 19; (with_reducible refine (HR0.out _ hb0).mono ?_); rintro e' wq ⟨rfl, hbq⟩; replace FF := FF.keep hbq (by omega); replace GG := GG.keep hbq (by omega); replace XX := XX.keep hbq (by omega); replace l1 := Nat.lt_of_lt_of_le l1 hbq.size; clear c0 c1 c2 c3 c4 c5 c6 g0 g1 g2 g3 g4 x0 x1; obtain ⟨c0, c1, c2, c3, c4, c5, c6⟩ := id FF; obtain ⟨g0, g1, g2, g3, g4⟩ := id GG; obtain ⟨x0, x1, -, -⟩ := id XX; replace hb0 := bt hb0 hbq; replace hb12 := bt hb12 hbq; clear hbq)
          | (go_at_call 21; (with_reducible refine (HAC.out _ hb0).mono ?_); rintro e' wq ⟨⟨Y3, y3, rfl, hy3⟩, hbq⟩; replace FF := FF.keep hbq (by omega); replace GG := GG.keep hbq (by omega); replace XX := XX.keep hbq (by omega); replace l1 := Nat.lt_of_lt_of_le l1 hbq.size; clear c0 c1 c2 c3 c4 c5 c6 g0 g1 g2 g3 g4 x0 x1; obtain ⟨c0, c1, c2, c3, c4, c5, c6⟩ := id FF; obtain ⟨g0, g1, g2, g3, g4⟩ := id GG; obtain ⟨x0, x1, -, -⟩ := id XX; replace hb0 := bt hb0 hbq; replace hb12 := bt hb12 hbq; clear hbq)
          | (go_at_call 20; (with_reducible refine (HKB.out _ _ _ (lies_nx HZ3.out hb12) hy3).mono ?_); rintro e' wq ⟨rfl, hbq⟩; replace FF := FF.keep hbq (by omega); replace GG := GG.keep hbq (by omega); replace XX := XX.keep hbq (by omega); replace l1 := Nat.lt_of_lt_of_le l1 hbq.size; clear c0 c1 c2 c3 c4 c5 c6 g0 g1 g2 g3 g4 x0 x1; obtain ⟨c0, c1, c2, c3, c4, c5, c6⟩ := id FF; obtain ⟨g0, g1, g2, g3, g4⟩ := id GG; obtain ⟨x0, x1, -, -⟩ := id XX; replace hb0 := bt hb0 hbq; replace hb12 := bt hb12 hbq; clear hbq)
          | (go_at_call 16; (with_reducible refine (HWK.out _ hb0).mono ?_); rintro e' wz ⟨rfl, hbz⟩))
        go_ret
        exact ⟨rfl, bt hb0 hbz⟩
    obtain ⟨q0, q1, q2, q3, q4, q5, q6, -, -, -, -, -, -, -⟩ := id FT
    have HAN := Lib.hid (fun W (hW : Below w11.heap.size w11 W) (hW2 : Below w13.heap.size w13 W) => an_same sv tv (T.getD noAnc) W (HSI5.out.next hW) (HTI.out.next hW2) HSD.out HTD.out HTS.out)
    have hbb : (T.isSome == T.isSome) = true := beq_self_eq_true _
    go_upto_region 17 with (go_at_call 15; (with_reducible refine (HAN.out _ hb12 (Below.refl _ _)).mono ?_); rintro e' wq ⟨rfl, hbq⟩; replace FF := FF.keep hbq (by omega); replace GG := GG.keep hbq (by omega); replace XX := XX.keep hbq (by omega); replace l1 := Nat.lt_of_lt_of_le l1 hbq.size; clear c0 c1 c2 c3 c4 c5 c6 g0 g1 g2 g3 g4 x0 x1; obtain ⟨c0, c1, c2, c3, c4, c5, c6⟩ := id FF; obtain ⟨g0, g1, g2, g3, g4⟩ := id GG; obtain ⟨x0, x1, -, -⟩ := id XX; replace hb0 := bt hb0 hbq; replace FS := FS.keep hbq lS; replace lS := Nat.lt_of_lt_of_le lS hbq.size; replace FP := FP.keep hbq lP; replace lP := Nat.lt_of_lt_of_le lP hbq.size; replace FZ := Sev.keep FZ hbq lZ; replace lZ := Nat.lt_of_lt_of_le lZ hbq.size; replace hb12 := bt hb12 hbq; clear s0 s1 s2 s3 s4 s5 s6 p0 p1 p2 p3 p4 p5 p6 z0 z1 z2 z3 z4 z5 z6 hbq; obtain ⟨s0, s1, s2, s3, s4, s5, s6⟩ := id FS; obtain ⟨p0, p1, p2, p3, p4, p5, p6⟩ := id FP; obtain ⟨z0, z1, z2, z3, z4, z5, z6, -, -, -, -, -, -, -⟩ := id FZ)
    clear q0 q1 q2 q3 q4 q5 q6 FT HAN hbb HTI HTD HTS HTT lT l1g lSg lPg lZg l11
    clear FS lS s0 s1 s2 s3 s4 s5 s6
    obtain ⟨v4, v5, v6, v7⟩ := HV2.out
    have HZP := Lib.hid (fun (hP : P = noAnc) W (hW : Below w11.heap.size w11 W) => zero_true pv W (HPI5.out.next hW) (HPD.out.trans hP))
    have HRA := Lib.hid (show ∀ (cb : Bool), (cb = true ↔ anc.Good z d s l x.d) → ∀ W, Below w.heap.size w W → Calls Tryd.prog 19 #[.agg #[.int .i64 z, .int .i64 d, .int .i64 s, .int .i64 l, .int .i64 a], .agg #[.int .i64 x.gen, .int .i64 x.ep, .int .i64 x.pos, .int .i64 x.seq, .int .i64 x.last, .string x.lab, .slice x.HA x.hs.length x.hc]] W fun e' w' => e' = .returned (.bool cb) ∧ Below W.heap.size W w' from fun cb hcb W hW => right_p z d s l a cb x W HO.out (HX.out.next hW) (by omega) (fun r hr => Nat.le_trans (t3 r hr) (by omega)) (by omega) hcb)
    clear HV2
    by_cases hna : (n : Int) = a
    case neg =>
      obtain ⟨hP, rfl, rfl⟩ := v4 HO.out hna
      have hn1 : ((n : Int) != a) = true := bne_iff_ne.2 hna
      have HZ1 := Lib.hid (HZP.out hP)
      clear hna hP v4 v5
      go_upto_region 26 with (go_at_call 15; (with_reducible refine (HZ1.out _ hb12).mono ?_); rintro e' wq ⟨rfl, hbq⟩; replace FF := FF.keep hbq (by omega); replace GG := GG.keep hbq (by omega); replace XX := XX.keep hbq (by omega); replace l1 := Nat.lt_of_lt_of_le l1 hbq.size; clear c0 c1 c2 c3 c4 c5 c6 g0 g1 g2 g3 g4 x0 x1; obtain ⟨c0, c1, c2, c3, c4, c5, c6⟩ := id FF; obtain ⟨g0, g1, g2, g3, g4⟩ := id GG; obtain ⟨x0, x1, -, -⟩ := id XX; replace hb0 := bt hb0 hbq; replace FP := FP.keep hbq lP; replace lP := Nat.lt_of_lt_of_le lP hbq.size; replace FZ := Sev.keep FZ hbq lZ; replace lZ := Nat.lt_of_lt_of_le lZ hbq.size; replace hb12 := bt hb12 hbq; clear p0 p1 p2 p3 p4 p5 p6 z0 z1 z2 z3 z4 z5 z6 hbq; obtain ⟨p0, p1, p2, p3, p4, p5, p6⟩ := id FP; obtain ⟨z0, z1, z2, z3, z4, z5, z6, -, -, -, -, -, -, -⟩ := id FZ)
      clear p0 p1 p2 p3 p4 p5 p6 z0 z1 z2 z3 z4 z5 z6 FP FZ lP lZ
      by_cases hgx : anc.Good z d s l x.d
      case neg =>
        obtain ⟨rfl, rfl⟩ := v7 (fun h => hgx h.2.1)
        have HR0 := Lib.hid (HRA.out false (iff_of_false Bool.false_ne_true hgx))
        clear v6 v7 hgx HRA
        go_wp2_with (first
          | (go_at_call 19; (with_reducible refine (HR0.out _ hb0).mono ?_); rintro e' wq ⟨rfl, hbq⟩; replace FF := FF.keep hbq (by omega); replace GG := GG.keep hbq (by omega); replace XX := XX.keep hbq (by omega); replace l1 := Nat.lt_of_lt_of_le l1 hbq.size; clear c0 c1 c2 c3 c4 c5 c6 g0 g1 g2 g3 g4 x0 x1; obtain ⟨c0, c1, c2, c3, c4, c5, c6⟩ := id FF; obtain ⟨g0, g1, g2, g3, g4⟩ := id GG; obtain ⟨x0, x1, -, -⟩ := id XX; replace hb0 := bt hb0 hbq; replace hb12 := bt hb12 hbq; clear hbq)
          | (go_at_call 16; (with_reducible refine (HWK.out _ hb0).mono ?_); rintro e' wz ⟨rfl, hbz⟩))
        go_ret
        exact ⟨rfl, bt hb0 hbz⟩
      have HR0 := Lib.hid (HRA.out true (iff_of_true rfl hgx))
      clear HRA
      by_cases hi0 : i < 0
      case pos =>
        obtain ⟨rfl, rfl⟩ := v7 (fun h => by omega)
        clear v6 v7 hgx
        go_wp2_with (first
          | (go_at_call 19; (with_reducible refine (HR0.out _ hb0).mono ?_); rintro e' wq ⟨rfl, hbq⟩; replace FF := FF.keep hbq (by omega); replace GG := GG.keep hbq (by omega); replace XX := XX.keep hbq (by omega); replace l1 := Nat.lt_of_lt_of_le l1 hbq.size; clear c0 c1 c2 c3 c4 c5 c6 g0 g1 g2 g3 g4 x0 x1; obtain ⟨c0, c1, c2, c3, c4, c5, c6⟩ := id FF; obtain ⟨g0, g1, g2, g3, g4⟩ := id GG; obtain ⟨x0, x1, -, -⟩ := id XX; replace hb0 := bt hb0 hbq; replace hb12 := bt hb12 hbq; clear hbq)
          | (go_at_call 16; (with_reducible refine (HWK.out _ hb0).mono ?_); rintro e' wz ⟨rfl, hbz⟩))
        go_ret
        exact ⟨rfl, bt hb0 hbz⟩
      by_cases hia : i < a
      case neg =>
        obtain ⟨rfl, rfl⟩ := v7 (fun h => hia h.2.2.2)
        clear v6 v7 hgx
        go_wp2_with (first
          | (go_at_call 19; (with_reducible refine (HR0.out _ hb0).mono ?_); rintro e' wq ⟨rfl, hbq⟩; replace FF := FF.keep hbq (by omega); replace GG := GG.keep hbq (by omega); replace XX := XX.keep hbq (by omega); replace l1 := Nat.lt_of_lt_of_le l1 hbq.size; clear c0 c1 c2 c3 c4 c5 c6 g0 g1 g2 g3 g4 x0 x1; obtain ⟨c0, c1, c2, c3, c4, c5, c6⟩ := id FF; obtain ⟨g0, g1, g2, g3, g4⟩ := id GG; obtain ⟨x0, x1, -, -⟩ := id XX; replace hb0 := bt hb0 hbq; replace hb12 := bt hb12 hbq; clear hbq)
          | (go_at_call 16; (with_reducible refine (HWK.out _ hb0).mono ?_); rintro e' wz ⟨rfl, hbz⟩))
        go_ret
        exact ⟨rfl, bt hb0 hbz⟩
      obtain ⟨I, rfl⟩ : ∃ I : Nat, i = I := ⟨i.toNat, by omega⟩
      obtain ⟨rfl, hcq, hcl⟩ := v6 ⟨HO.out, hgx, by omega, hia⟩
      rw [Int.toNat_natCast] at hcl
      have hlen : cl.length = cq := by rw [hcl, hcq, enc_length]
      have h107 : cq ≤ 107 := by have := (enc96 HO.out hgx).1; omega
      have HAC := Lib.hid (show ∀ W, Below w.heap.size w W → Calls Tryd.prog 21 #[.agg #[.int .i64 x.gen, .int .i64 x.ep, .int .i64 x.pos, .int .i64 x.seq, .int .i64 x.last, .string x.lab, .slice x.HA x.hs.length x.hc], .int .i64 I] W fun e' w' => BytA cq cl e' w' ∧ Below W.heap.size W w' from fun W hW => by
        have h9 := ranchor_cell z d s l a x I W HO.out (HX.out.next hW) hgx (by have := HO.out.2.2.2.2; omega)
        rw [← hcq, ← hcl] at h9
        exact h9)
      have HKB := Lib.hid (show ∀ (W : World) (Y : Option Addr) (y2 : Nat), Lies W Z zv cl → Lies W Y y2 cl → Calls Tryd.prog 20 #[.slice Z cq zv, .slice Y cq y2] W fun e' w' => e' = .returned (.bool true) ∧ Below W.heap.size W w' from fun W Y y2 h1 h2 => by
        have h9 := keep_short Z Y zv y2 W.heap.size W.heap.size cl cl W rfl h1.2.2 h2.2.2 (Nat.le_refl _) (Nat.le_refl _) (by omega)
        rw [hlen, decide_eq_true rfl] at h9
        exact h9)
      have HZ3 := Lib.hid (HZL2.out rfl)
      clear v6 v7 hgx hcq hcl hlen h107 HZL2
      go_wp2_with (first
        | (go_at_call 19; (with_reducible refine (HR0.out _ hb0).mono ?_); rintro e' wq ⟨rfl, hbq⟩; replace FF := FF.keep hbq (by omega); replace GG := GG.keep hbq (by omega); replace XX := XX.keep hbq (by omega); replace l1 := Nat.lt_of_lt_of_le l1 hbq.size; clear c0 c1 c2 c3 c4 c5 c6 g0 g1 g2 g3 g4 x0 x1; obtain ⟨c0, c1, c2, c3, c4, c5, c6⟩ := id FF; obtain ⟨g0, g1, g2, g3, g4⟩ := id GG; obtain ⟨x0, x1, -, -⟩ := id XX; replace hb0 := bt hb0 hbq; replace hb12 := bt hb12 hbq; clear hbq)
        | (go_at_call 21; (with_reducible refine (HAC.out _ hb0).mono ?_); rintro e' wq ⟨⟨Y3, y3, rfl, hy3⟩, hbq⟩; replace FF := FF.keep hbq (by omega); replace GG := GG.keep hbq (by omega); replace XX := XX.keep hbq (by omega); replace l1 := Nat.lt_of_lt_of_le l1 hbq.size; clear c0 c1 c2 c3 c4 c5 c6 g0 g1 g2 g3 g4 x0 x1; obtain ⟨c0, c1, c2, c3, c4, c5, c6⟩ := id FF; obtain ⟨g0, g1, g2, g3, g4⟩ := id GG; obtain ⟨x0, x1, -, -⟩ := id XX; replace hb0 := bt hb0 hbq; replace hb12 := bt hb12 hbq; clear hbq)
        | (go_at_call 20; (with_reducible refine (HKB.out _ _ _ (lies_nx HZ3.out hb12) hy3).mono ?_); rintro e' wq ⟨rfl, hbq⟩; replace FF := FF.keep hbq (by omega); replace GG := GG.keep hbq (by omega); replace XX := XX.keep hbq (by omega); replace l1 := Nat.lt_of_lt_of_le l1 hbq.size; clear c0 c1 c2 c3 c4 c5 c6 g0 g1 g2 g3 g4 x0 x1; obtain ⟨c0, c1, c2, c3, c4, c5, c6⟩ := id FF; obtain ⟨g0, g1, g2, g3, g4⟩ := id GG; obtain ⟨x0, x1, -, -⟩ := id XX; replace hb0 := bt hb0 hbq; replace hb12 := bt hb12 hbq; clear hbq)
        | (go_at_call 16; (with_reducible refine (HWK.out _ hb0).mono ?_); rintro e' wz ⟨rfl, hbz⟩))
      go_ret
      exact ⟨rfl, bt hb0 hbz⟩
    obtain ⟨hP, hpi, hpe⟩ := v5 HO.out hna
    have hn1 : ((n : Int) != a) = false := by rw [hna]; exact bne_self_eq_false _
    obtain ⟨N, hNN⟩ : ∃ N, N = newN (sayAt z d s l (gds rs)) n := ⟨_, rfl⟩
    rw [← hNN] at hP hpi hpe
    have HNQ := Lib.hid (show ∀ W, Below w.heap.size w W → Calls Tryd.prog 18 #[.agg #[.int .i64 z, .int .i64 d, .int .i64 s, .int .i64 l, .int .i64 a], .slice A n c] W fun e' w' => NewQ W.heap.size N e' w' ∧ Below W.heap.size W w' from fun W hW => by
      rw [hNN]
      exact rnewest_any z d s l a A n c rs W HO.out HN.out (HA.out.next hW) (HR.out.next hW) (by have := HN.out; omega))
    clear hna v4 v5
    rcases N with _ | ⟨Y, j⟩
    case none =>
      replace hpi : pi = 0 := hpi
      replace hpe : pe = 11 := hpe
      subst hpi hpe
      have HZ1 := Lib.hid (HZP.out hP)
      have HNR := Lib.hid (show ∀ W, Below w.heap.size w W → Calls Tryd.prog 18 #[.agg #[.int .i64 z, .int .i64 d, .int .i64 s, .int .i64 l, .int .i64 a], .slice A n c] W fun e' w' => (∃ y : AV, e' = .returned (.tuple #[.agg #[.int .i64 y.gen, .int .i64 y.ep, .int .i64 y.pos, .int .i64 y.seq, .int .i64 y.last, .string y.lab, .slice y.HA y.hs.length y.hc], .int .i64 (-1)])) ∧ Below W.heap.size W w' from fun W hW => (HNQ.out W hW).mono fun e' w' h => ⟨by obtain ⟨⟨y, h1, -⟩, -⟩ := h; exact ⟨y, h1⟩, h.2⟩)
      clear hP hNN HNQ
      go_upto_region 21 with (go_at_call 18; (with_reducible refine (HNR.out _ hb0).mono ?_); rintro e' w16 ⟨⟨nv, rfl⟩, hbq⟩; replace FF := FF.keep hbq (by omega); replace GG := GG.keep hbq (by omega); replace XX := XX.keep hbq (by omega); replace l1 := Nat.lt_of_lt_of_le l1 hbq.size; clear c0 c1 c2 c3 c4 c5 c6 g0 g1 g2 g3 g4 x0 x1; obtain ⟨c0, c1, c2, c3, c4, c5, c6⟩ := id FF; obtain ⟨g0, g1, g2, g3, g4⟩ := id GG; obtain ⟨x0, x1, -, -⟩ := id XX; replace hb0 := bt hb0 hbq; replace FP := FP.keep hbq lP; replace lP := Nat.lt_of_lt_of_le lP hbq.size; replace FZ := Sev.keep FZ hbq lZ; replace lZ := Nat.lt_of_lt_of_le lZ hbq.size; replace hb12 := bt hb12 hbq; clear p0 p1 p2 p3 p4 p5 p6 z0 z1 z2 z3 z4 z5 z6 hbq; obtain ⟨p0, p1, p2, p3, p4, p5, p6⟩ := id FP; obtain ⟨z0, z1, z2, z3, z4, z5, z6, -, -, -, -, -, -, -⟩ := id FZ)
      have hbq := bl w16 (.cells #[.int .i64 nv.gen, .int .i64 nv.ep, .int .i64 nv.pos, .int .i64 nv.seq, .int .i64 nv.last, .string nv.lab, .slice nv.HA nv.hs.length nv.hc] 31)
      replace FF := FF.keep hbq (by omega); replace GG := GG.keep hbq (by omega); replace XX := XX.keep hbq (by omega); replace l1 := Nat.lt_of_lt_of_le l1 hbq.size; clear c0 c1 c2 c3 c4 c5 c6 g0 g1 g2 g3 g4 x0 x1; obtain ⟨c0, c1, c2, c3, c4, c5, c6⟩ := id FF; obtain ⟨g0, g1, g2, g3, g4⟩ := id GG; obtain ⟨x0, x1, -, -⟩ := id XX; replace hb0 := bt hb0 hbq; replace FP := FP.keep hbq lP; replace lP := Nat.lt_of_lt_of_le lP hbq.size; replace FZ := Sev.keep FZ hbq lZ; replace lZ := Nat.lt_of_lt_of_le lZ hbq.size; replace hb12 := bt hb12 hbq; clear p0 p1 p2 p3 p4 p5 p6 z0 z1 z2 z3 z4 z5 z6 hbq; obtain ⟨p0, p1, p2, p3, p4, p5, p6⟩ := id FP; obtain ⟨z0, z1, z2, z3, z4, z5, z6, -, -, -, -, -, -, -⟩ := id FZ
      generalize w16.alloc (.cells #[.int .i64 nv.gen, .int .i64 nv.ep, .int .i64 nv.pos, .int .i64 nv.seq, .int .i64 nv.last, .string nv.lab, .slice nv.HA nv.hs.length nv.hc] 31) = w17 at *
      clear HNR
      go_upto_region 26 with (go_at_call 15; (with_reducible refine (HZ1.out _ hb12).mono ?_); rintro e' wq ⟨rfl, hbq⟩; replace FF := FF.keep hbq (by omega); replace GG := GG.keep hbq (by omega); replace XX := XX.keep hbq (by omega); replace l1 := Nat.lt_of_lt_of_le l1 hbq.size; clear c0 c1 c2 c3 c4 c5 c6 g0 g1 g2 g3 g4 x0 x1; obtain ⟨c0, c1, c2, c3, c4, c5, c6⟩ := id FF; obtain ⟨g0, g1, g2, g3, g4⟩ := id GG; obtain ⟨x0, x1, -, -⟩ := id XX; replace hb0 := bt hb0 hbq; replace FP := FP.keep hbq lP; replace lP := Nat.lt_of_lt_of_le lP hbq.size; replace FZ := Sev.keep FZ hbq lZ; replace lZ := Nat.lt_of_lt_of_le lZ hbq.size; replace hb12 := bt hb12 hbq; clear p0 p1 p2 p3 p4 p5 p6 z0 z1 z2 z3 z4 z5 z6 hbq; obtain ⟨p0, p1, p2, p3, p4, p5, p6⟩ := id FP; obtain ⟨z0, z1, z2, z3, z4, z5, z6, -, -, -, -, -, -, -⟩ := id FZ)
      clear p0 p1 p2 p3 p4 p5 p6 z0 z1 z2 z3 z4 z5 z6 FP FZ lP lZ
      by_cases hgx : anc.Good z d s l x.d
      case neg =>
        obtain ⟨rfl, rfl⟩ := v7 (fun h => hgx h.2.1)
        have HR0 := Lib.hid (HRA.out false (iff_of_false Bool.false_ne_true hgx))
        clear v6 v7 hgx HRA
        go_wp2_with (first
          | (go_at_call 19; (with_reducible refine (HR0.out _ hb0).mono ?_); rintro e' wq ⟨rfl, hbq⟩; replace FF := FF.keep hbq (by omega); replace GG := GG.keep hbq (by omega); replace XX := XX.keep hbq (by omega); replace l1 := Nat.lt_of_lt_of_le l1 hbq.size; clear c0 c1 c2 c3 c4 c5 c6 g0 g1 g2 g3 g4 x0 x1; obtain ⟨c0, c1, c2, c3, c4, c5, c6⟩ := id FF; obtain ⟨g0, g1, g2, g3, g4⟩ := id GG; obtain ⟨x0, x1, -, -⟩ := id XX; replace hb0 := bt hb0 hbq; replace hb12 := bt hb12 hbq; clear hbq)
          | (go_at_call 16; (with_reducible refine (HWK.out _ hb0).mono ?_); rintro e' wz ⟨rfl, hbz⟩))
        go_ret
        exact ⟨rfl, bt hb0 hbz⟩
      have HR0 := Lib.hid (HRA.out true (iff_of_true rfl hgx))
      clear HRA
      by_cases hi0 : i < 0
      case pos =>
        obtain ⟨rfl, rfl⟩ := v7 (fun h => by omega)
        clear v6 v7 hgx
        go_wp2_with (first
          | (go_at_call 19; (with_reducible refine (HR0.out _ hb0).mono ?_); rintro e' wq ⟨rfl, hbq⟩; replace FF := FF.keep hbq (by omega); replace GG := GG.keep hbq (by omega); replace XX := XX.keep hbq (by omega); replace l1 := Nat.lt_of_lt_of_le l1 hbq.size; clear c0 c1 c2 c3 c4 c5 c6 g0 g1 g2 g3 g4 x0 x1; obtain ⟨c0, c1, c2, c3, c4, c5, c6⟩ := id FF; obtain ⟨g0, g1, g2, g3, g4⟩ := id GG; obtain ⟨x0, x1, -, -⟩ := id XX; replace hb0 := bt hb0 hbq; replace hb12 := bt hb12 hbq; clear hbq)
          | (go_at_call 16; (with_reducible refine (HWK.out _ hb0).mono ?_); rintro e' wz ⟨rfl, hbz⟩))
        go_ret
        exact ⟨rfl, bt hb0 hbz⟩
      by_cases hia : i < a
      case neg =>
        obtain ⟨rfl, rfl⟩ := v7 (fun h => hia h.2.2.2)
        clear v6 v7 hgx
        go_wp2_with (first
          | (go_at_call 19; (with_reducible refine (HR0.out _ hb0).mono ?_); rintro e' wq ⟨rfl, hbq⟩; replace FF := FF.keep hbq (by omega); replace GG := GG.keep hbq (by omega); replace XX := XX.keep hbq (by omega); replace l1 := Nat.lt_of_lt_of_le l1 hbq.size; clear c0 c1 c2 c3 c4 c5 c6 g0 g1 g2 g3 g4 x0 x1; obtain ⟨c0, c1, c2, c3, c4, c5, c6⟩ := id FF; obtain ⟨g0, g1, g2, g3, g4⟩ := id GG; obtain ⟨x0, x1, -, -⟩ := id XX; replace hb0 := bt hb0 hbq; replace hb12 := bt hb12 hbq; clear hbq)
          | (go_at_call 16; (with_reducible refine (HWK.out _ hb0).mono ?_); rintro e' wz ⟨rfl, hbz⟩))
        go_ret
        exact ⟨rfl, bt hb0 hbz⟩
      obtain ⟨I, rfl⟩ : ∃ I : Nat, i = I := ⟨i.toNat, by omega⟩
      obtain ⟨rfl, hcq, hcl⟩ := v6 ⟨HO.out, hgx, by omega, hia⟩
      rw [Int.toNat_natCast] at hcl
      have hlen : cl.length = cq := by rw [hcl, hcq, enc_length]
      have h107 : cq ≤ 107 := by have := (enc96 HO.out hgx).1; omega
      have HAC := Lib.hid (show ∀ W, Below w.heap.size w W → Calls Tryd.prog 21 #[.agg #[.int .i64 x.gen, .int .i64 x.ep, .int .i64 x.pos, .int .i64 x.seq, .int .i64 x.last, .string x.lab, .slice x.HA x.hs.length x.hc], .int .i64 I] W fun e' w' => BytA cq cl e' w' ∧ Below W.heap.size W w' from fun W hW => by
        have h9 := ranchor_cell z d s l a x I W HO.out (HX.out.next hW) hgx (by have := HO.out.2.2.2.2; omega)
        rw [← hcq, ← hcl] at h9
        exact h9)
      have HKB := Lib.hid (show ∀ (W : World) (Y : Option Addr) (y2 : Nat), Lies W Z zv cl → Lies W Y y2 cl → Calls Tryd.prog 20 #[.slice Z cq zv, .slice Y cq y2] W fun e' w' => e' = .returned (.bool true) ∧ Below W.heap.size W w' from fun W Y y2 h1 h2 => by
        have h9 := keep_short Z Y zv y2 W.heap.size W.heap.size cl cl W rfl h1.2.2 h2.2.2 (Nat.le_refl _) (Nat.le_refl _) (by omega)
        rw [hlen, decide_eq_true rfl] at h9
        exact h9)
      have HZ3 := Lib.hid (HZL2.out rfl)
      clear v6 v7 hgx hcq hcl hlen h107 HZL2
      go_wp2_with (first
        | (go_at_call 19; (with_reducible refine (HR0.out _ hb0).mono ?_); rintro e' wq ⟨rfl, hbq⟩; replace FF := FF.keep hbq (by omega); replace GG := GG.keep hbq (by omega); replace XX := XX.keep hbq (by omega); replace l1 := Nat.lt_of_lt_of_le l1 hbq.size; clear c0 c1 c2 c3 c4 c5 c6 g0 g1 g2 g3 g4 x0 x1; obtain ⟨c0, c1, c2, c3, c4, c5, c6⟩ := id FF; obtain ⟨g0, g1, g2, g3, g4⟩ := id GG; obtain ⟨x0, x1, -, -⟩ := id XX; replace hb0 := bt hb0 hbq; replace hb12 := bt hb12 hbq; clear hbq)
        | (go_at_call 21; (with_reducible refine (HAC.out _ hb0).mono ?_); rintro e' wq ⟨⟨Y3, y3, rfl, hy3⟩, hbq⟩; replace FF := FF.keep hbq (by omega); replace GG := GG.keep hbq (by omega); replace XX := XX.keep hbq (by omega); replace l1 := Nat.lt_of_lt_of_le l1 hbq.size; clear c0 c1 c2 c3 c4 c5 c6 g0 g1 g2 g3 g4 x0 x1; obtain ⟨c0, c1, c2, c3, c4, c5, c6⟩ := id FF; obtain ⟨g0, g1, g2, g3, g4⟩ := id GG; obtain ⟨x0, x1, -, -⟩ := id XX; replace hb0 := bt hb0 hbq; replace hb12 := bt hb12 hbq; clear hbq)
        | (go_at_call 20; (with_reducible refine (HKB.out _ _ _ (lies_nx HZ3.out hb12) hy3).mono ?_); rintro e' wq ⟨rfl, hbq⟩; replace FF := FF.keep hbq (by omega); replace GG := GG.keep hbq (by omega); replace XX := XX.keep hbq (by omega); replace l1 := Nat.lt_of_lt_of_le l1 hbq.size; clear c0 c1 c2 c3 c4 c5 c6 g0 g1 g2 g3 g4 x0 x1; obtain ⟨c0, c1, c2, c3, c4, c5, c6⟩ := id FF; obtain ⟨g0, g1, g2, g3, g4⟩ := id GG; obtain ⟨x0, x1, -, -⟩ := id XX; replace hb0 := bt hb0 hbq; replace hb12 := bt hb12 hbq; clear hbq)
        | (go_at_call 16; (with_reducible refine (HWK.out _ hb0).mono ?_); rintro e' wz ⟨rfl, hbz⟩))
      go_ret
      exact ⟨rfl, bt hb0 hbz⟩
    case some =>
      replace hpi : pi = (j : Int) := hpi
      replace hpe : pe = 0 := hpe
      subst hpi hpe
      have hsY : Y.hs.length ≤ 1048576 ∧ ∀ h ∈ Y.hs, h.ps.length ≤ 1048576 := by
        obtain ⟨hj, hfj⟩ := newN_lt hNN.symm
        have hl : j < (gds rs).length := by rw [gds_length]; have := HN.out; omega
        rw [sayAt_get (List.getElem?_eq_getElem hl)] at hfj
        exact say_short HO.out hfj.symm
      have hPY : P = Y := hP
      have HNR := Lib.hid (show ∀ W, Below w.heap.size w W → Calls Tryd.prog 18 #[.agg #[.int .i64 z, .int .i64 d, .int .i64 s, .int .i64 l, .int .i64 a], .slice A n c] W fun e' w' => (∃ y : AV, e' = .returned (.tuple #[.agg #[.int .i64 y.gen, .int .i64 y.ep, .int .i64 y.pos, .int .i64 y.seq, .int .i64 y.last, .string y.lab, .slice y.HA y.hs.length y.hc], .int .i64 j]) ∧ y.d = Y ∧ y.In w' w'.heap.size) ∧ Below W.heap.size W w' from fun W hW => (HNQ.out W hW).mono fun e' w' h => ⟨by obtain ⟨⟨y, h1, h2, h3⟩, -⟩ := h; exact ⟨y, h1, h2, AV.Own.inn h3⟩, h.2⟩)
      have HSY := Lib.hid hsY
      have HPY := Lib.hid (HPD.out.trans hPY)
      have j1 : ¬ (j : Int) < 0 := by omega
      have j2 : ((j : Int) != j) = false := bne_self_eq_false _
      clear hP hNN HNQ hPY hsY HZP
      go_upto_region 21 with (go_at_call 18; (with_reducible refine (HNR.out _ hb0).mono ?_); rintro e' w16 ⟨⟨nv, rfl, hnd, hni⟩, hbq⟩; replace FF := FF.keep hbq (by omega); replace GG := GG.keep hbq (by omega); replace XX := XX.keep hbq (by omega); replace l1 := Nat.lt_of_lt_of_le l1 hbq.size; clear c0 c1 c2 c3 c4 c5 c6 g0 g1 g2 g3 g4 x0 x1; obtain ⟨c0, c1, c2, c3, c4, c5, c6⟩ := id FF; obtain ⟨g0, g1, g2, g3, g4⟩ := id GG; obtain ⟨x0, x1, -, -⟩ := id XX; replace hb0 := bt hb0 hbq; replace FP := FP.keep hbq lP; replace lP := Nat.lt_of_lt_of_le lP hbq.size; replace FZ := Sev.keep FZ hbq lZ; replace lZ := Nat.lt_of_lt_of_le lZ hbq.size; replace hb12 := bt hb12 hbq; clear p0 p1 p2 p3 p4 p5 p6 z0 z1 z2 z3 z4 z5 z6 hbq; obtain ⟨p0, p1, p2, p3, p4, p5, p6⟩ := id FP; obtain ⟨z0, z1, z2, z3, z4, z5, z6, -, -, -, -, -, -, -⟩ := id FZ)
      have FN := ac_new w16 nv
      have hbq := bl w16 (.cells #[.int .i64 nv.gen, .int .i64 nv.ep, .int .i64 nv.pos, .int .i64 nv.seq, .int .i64 nv.last, .string nv.lab, .slice nv.HA nv.hs.length nv.hc] 31)
      have HNI := Lib.hid (hni.next hbq)
      have HND := Lib.hid hnd
      replace FF := FF.keep hbq (by omega); replace GG := GG.keep hbq (by omega); replace XX := XX.keep hbq (by omega); replace l1 := Nat.lt_of_lt_of_le l1 hbq.size; clear c0 c1 c2 c3 c4 c5 c6 g0 g1 g2 g3 g4 x0 x1; obtain ⟨c0, c1, c2, c3, c4, c5, c6⟩ := id FF; obtain ⟨g0, g1, g2, g3, g4⟩ := id GG; obtain ⟨x0, x1, -, -⟩ := id XX; replace hb0 := bt hb0 hbq; replace FP := FP.keep hbq lP; replace lP := Nat.lt_of_lt_of_le lP hbq.size; replace FZ := Sev.keep FZ hbq lZ; replace lZ := Nat.lt_of_lt_of_le lZ hbq.size; replace hb12 := bt hb12 hbq; clear p0 p1 p2 p3 p4 p5 p6 z0 z1 z2 z3 z4 z5 z6 hbq; obtain ⟨p0, p1, p2, p3, p4, p5, p6⟩ := id FP; obtain ⟨z0, z1, z2, z3, z4, z5, z6, -, -, -, -, -, -, -⟩ := id FZ
      clear HNR hni hnd
      obtain ⟨gN, hgN⟩ : ∃ g, g = w16.heap.size := ⟨_, rfl⟩
      rw [← hgN] at FN ⊢
      clear hgN
      generalize w16.alloc (.cells #[.int .i64 nv.gen, .int .i64 nv.ep, .int .i64 nv.pos, .int .i64 nv.seq, .int .i64 nv.last, .string nv.lab, .slice nv.HA nv.hs.length nv.hc] 31) = w17 at *
      have HAN := Lib.hid (fun W (hW : Below w11.heap.size w11 W) (hW2 : Below w17.heap.size w17 W) => an_same pv nv Y W (HPI5.out.next hW) (HNI.out.next hW2) HPY.out HND.out HSY.out)
      obtain ⟨n0, n1, n2, n3, n4, n5, n6⟩ := id FN
      go_upto_region 26 with (go_at_call 15; (with_reducible refine (HAN.out _ hb12 (Below.refl _ _)).mono ?_); rintro e' wq ⟨rfl, hbq⟩; replace FF := FF.keep hbq (by omega); replace GG := GG.keep hbq (by omega); replace XX := XX.keep hbq (by omega); replace l1 := Nat.lt_of_lt_of_le l1 hbq.size; clear c0 c1 c2 c3 c4 c5 c6 g0 g1 g2 g3 g4 x0 x1; obtain ⟨c0, c1, c2, c3, c4, c5, c6⟩ := id FF; obtain ⟨g0, g1, g2, g3, g4⟩ := id GG; obtain ⟨x0, x1, -, -⟩ := id XX; replace hb0 := bt hb0 hbq; replace FP := FP.keep hbq lP; replace lP := Nat.lt_of_lt_of_le lP hbq.size; replace FZ := Sev.keep FZ hbq lZ; replace lZ := Nat.lt_of_lt_of_le lZ hbq.size; replace hb12 := bt hb12 hbq; clear p0 p1 p2 p3 p4 p5 p6 z0 z1 z2 z3 z4 z5 z6 hbq; obtain ⟨p0, p1, p2, p3, p4, p5, p6⟩ := id FP; obtain ⟨z0, z1, z2, z3, z4, z5, z6, -, -, -, -, -, -, -⟩ := id FZ)
      clear n0 n1 n2 n3 n4 n5 n6 FN HAN HNI HND HSY HPY
      clear p0 p1 p2 p3 p4 p5 p6 z0 z1 z2 z3 z4 z5 z6 FP FZ lP lZ
      by_cases hgx : anc.Good z d s l x.d
      case neg =>
        obtain ⟨rfl, rfl⟩ := v7 (fun h => hgx h.2.1)
        have HR0 := Lib.hid (HRA.out false (iff_of_false Bool.false_ne_true hgx))
        clear v6 v7 hgx HRA
        go_wp2_with (first
          | (go_at_call 19; (with_reducible refine (HR0.out _ hb0).mono ?_); rintro e' wq ⟨rfl, hbq⟩; replace FF := FF.keep hbq (by omega); replace GG := GG.keep hbq (by omega); replace XX := XX.keep hbq (by omega); replace l1 := Nat.lt_of_lt_of_le l1 hbq.size; clear c0 c1 c2 c3 c4 c5 c6 g0 g1 g2 g3 g4 x0 x1; obtain ⟨c0, c1, c2, c3, c4, c5, c6⟩ := id FF; obtain ⟨g0, g1, g2, g3, g4⟩ := id GG; obtain ⟨x0, x1, -, -⟩ := id XX; replace hb0 := bt hb0 hbq; replace hb12 := bt hb12 hbq; clear hbq)
          | (go_at_call 16; (with_reducible refine (HWK.out _ hb0).mono ?_); rintro e' wz ⟨rfl, hbz⟩))
        go_ret
        exact ⟨rfl, bt hb0 hbz⟩
      have HR0 := Lib.hid (HRA.out true (iff_of_true rfl hgx))
      clear HRA
      by_cases hi0 : i < 0
      case pos =>
        obtain ⟨rfl, rfl⟩ := v7 (fun h => by omega)
        clear v6 v7 hgx
        go_wp2_with (first
          | (go_at_call 19; (with_reducible refine (HR0.out _ hb0).mono ?_); rintro e' wq ⟨rfl, hbq⟩; replace FF := FF.keep hbq (by omega); replace GG := GG.keep hbq (by omega); replace XX := XX.keep hbq (by omega); replace l1 := Nat.lt_of_lt_of_le l1 hbq.size; clear c0 c1 c2 c3 c4 c5 c6 g0 g1 g2 g3 g4 x0 x1; obtain ⟨c0, c1, c2, c3, c4, c5, c6⟩ := id FF; obtain ⟨g0, g1, g2, g3, g4⟩ := id GG; obtain ⟨x0, x1, -, -⟩ := id XX; replace hb0 := bt hb0 hbq; replace hb12 := bt hb12 hbq; clear hbq)
          | (go_at_call 16; (with_reducible refine (HWK.out _ hb0).mono ?_); rintro e' wz ⟨rfl, hbz⟩))
        go_ret
        exact ⟨rfl, bt hb0 hbz⟩
      by_cases hia : i < a
      case neg =>
        obtain ⟨rfl, rfl⟩ := v7 (fun h => hia h.2.2.2)
        clear v6 v7 hgx
        go_wp2_with (first
          | (go_at_call 19; (with_reducible refine (HR0.out _ hb0).mono ?_); rintro e' wq ⟨rfl, hbq⟩; replace FF := FF.keep hbq (by omega); replace GG := GG.keep hbq (by omega); replace XX := XX.keep hbq (by omega); replace l1 := Nat.lt_of_lt_of_le l1 hbq.size; clear c0 c1 c2 c3 c4 c5 c6 g0 g1 g2 g3 g4 x0 x1; obtain ⟨c0, c1, c2, c3, c4, c5, c6⟩ := id FF; obtain ⟨g0, g1, g2, g3, g4⟩ := id GG; obtain ⟨x0, x1, -, -⟩ := id XX; replace hb0 := bt hb0 hbq; replace hb12 := bt hb12 hbq; clear hbq)
          | (go_at_call 16; (with_reducible refine (HWK.out _ hb0).mono ?_); rintro e' wz ⟨rfl, hbz⟩))
        go_ret
        exact ⟨rfl, bt hb0 hbz⟩
      obtain ⟨I, rfl⟩ : ∃ I : Nat, i = I := ⟨i.toNat, by omega⟩
      obtain ⟨rfl, hcq, hcl⟩ := v6 ⟨HO.out, hgx, by omega, hia⟩
      rw [Int.toNat_natCast] at hcl
      have hlen : cl.length = cq := by rw [hcl, hcq, enc_length]
      have h107 : cq ≤ 107 := by have := (enc96 HO.out hgx).1; omega
      have HAC := Lib.hid (show ∀ W, Below w.heap.size w W → Calls Tryd.prog 21 #[.agg #[.int .i64 x.gen, .int .i64 x.ep, .int .i64 x.pos, .int .i64 x.seq, .int .i64 x.last, .string x.lab, .slice x.HA x.hs.length x.hc], .int .i64 I] W fun e' w' => BytA cq cl e' w' ∧ Below W.heap.size W w' from fun W hW => by
        have h9 := ranchor_cell z d s l a x I W HO.out (HX.out.next hW) hgx (by have := HO.out.2.2.2.2; omega)
        rw [← hcq, ← hcl] at h9
        exact h9)
      have HKB := Lib.hid (show ∀ (W : World) (Y : Option Addr) (y2 : Nat), Lies W Z zv cl → Lies W Y y2 cl → Calls Tryd.prog 20 #[.slice Z cq zv, .slice Y cq y2] W fun e' w' => e' = .returned (.bool true) ∧ Below W.heap.size W w' from fun W Y y2 h1 h2 => by
        have h9 := keep_short Z Y zv y2 W.heap.size W.heap.size cl cl W rfl h1.2.2 h2.2.2 (Nat.le_refl _) (Nat.le_refl _) (by omega)
        rw [hlen, decide_eq_true rfl] at h9
        exact h9)
      have HZ3 := Lib.hid (HZL2.out rfl)
      clear v6 v7 hgx hcq hcl hlen h107 HZL2
      go_wp2_with (first
        | (go_at_call 19; (with_reducible refine (HR0.out _ hb0).mono ?_); rintro e' wq ⟨rfl, hbq⟩; replace FF := FF.keep hbq (by omega); replace GG := GG.keep hbq (by omega); replace XX := XX.keep hbq (by omega); replace l1 := Nat.lt_of_lt_of_le l1 hbq.size; clear c0 c1 c2 c3 c4 c5 c6 g0 g1 g2 g3 g4 x0 x1; obtain ⟨c0, c1, c2, c3, c4, c5, c6⟩ := id FF; obtain ⟨g0, g1, g2, g3, g4⟩ := id GG; obtain ⟨x0, x1, -, -⟩ := id XX; replace hb0 := bt hb0 hbq; replace hb12 := bt hb12 hbq; clear hbq)
        | (go_at_call 21; (with_reducible refine (HAC.out _ hb0).mono ?_); rintro e' wq ⟨⟨Y3, y3, rfl, hy3⟩, hbq⟩; replace FF := FF.keep hbq (by omega); replace GG := GG.keep hbq (by omega); replace XX := XX.keep hbq (by omega); replace l1 := Nat.lt_of_lt_of_le l1 hbq.size; clear c0 c1 c2 c3 c4 c5 c6 g0 g1 g2 g3 g4 x0 x1; obtain ⟨c0, c1, c2, c3, c4, c5, c6⟩ := id FF; obtain ⟨g0, g1, g2, g3, g4⟩ := id GG; obtain ⟨x0, x1, -, -⟩ := id XX; replace hb0 := bt hb0 hbq; replace hb12 := bt hb12 hbq; clear hbq)
        | (go_at_call 20; (with_reducible refine (HKB.out _ _ _ (lies_nx HZ3.out hb12) hy3).mono ?_); rintro e' wq ⟨rfl, hbq⟩; replace FF := FF.keep hbq (by omega); replace GG := GG.keep hbq (by omega); replace XX := XX.keep hbq (by omega); replace l1 := Nat.lt_of_lt_of_le l1 hbq.size; clear c0 c1 c2 c3 c4 c5 c6 g0 g1 g2 g3 g4 x0 x1; obtain ⟨c0, c1, c2, c3, c4, c5, c6⟩ := id FF; obtain ⟨g0, g1, g2, g3, g4⟩ := id GG; obtain ⟨x0, x1, -, -⟩ := id XX; replace hb0 := bt hb0 hbq; replace hb12 := bt hb12 hbq; clear hbq)
        | (go_at_call 16; (with_reducible refine (HWK.out _ hb0).mono ?_); rintro e' wz ⟨rfl, hbz⟩))
      go_ret
      exact ⟨rfl, bt hb0 hbz⟩
end Go.Proofs.YtdjleimndolonaaDoor.nwt
