/-
  The law NewestMoved: an anchor's cell at another address says nothing; nor does one whose stamp is not its Gen. Conditions: 'Cts'.
-/
import Derived.Test.YtdjleimndolonaaDoorNwP
import Derived.Test.YtdjleimndolonaaDoorGAu
import Derived.Deep.RegionHeld3
import Derived.Deep.CutRange
import Derived.IntWalk
namespace Go.Proofs.YtdjleimndolonaaDoor.nwt
open Go.RowKit Go.Lib
open Go.Proofs.YtdjleimndolonaaDoor.gmt (Ok five_new rgeo_at)
open Go.Proofs.YtdjleimndolonaaDoor.anc (bl kal kst ks bm ka Anc noAnc AV noAV noAV_own encA RdQ ac_new AC G5 g5_new sev_new below7 heavy_any HeavyA light right_p anchor_any Sev)
open Go.Proofs.YtdjleimndolonaaDoor.sel (Lies enc enc_inj enc_length)

/-- Seven noughts in a block that was just laid. -/
def Zer (W : World) (g : Nat) : Prop := Sev W g (.int .i64 0) (.int .i64 0) (.int .i64 0) (.int .i64 0) (.int .i64 0) (.string ⟨#[]⟩) (.slice none 0 0)
theorem zer_new (w : World) : Zer (w.alloc (.cells #[.int .i64 0, .int .i64 0, .int .i64 0, .int .i64 0, .int .i64 0, .string ⟨#[]⟩, .slice none 0 0] 31)) w.heap.size := sev_new w _ _ _ _ _ _ _ _
theorem Zer.nx {W W' : World} {g : Nat} (h : Zer W g) (hb : Below W.heap.size W W') : Zer W' g := Sev.keep h hb (World.block_lt_of_cell? W _ h.c0)
theorem Zer.dr {W : World} {g : Nat} (h : Zer W g) : Zer W.drew g := h.nx (below_dr (Below.refl _ _))
set_option maxRecDepth 100000 in
set_option maxHeartbeats 8000000 in
theorem nm_heavy (z d s l a : Int) (x : AV) (ii kk : Int) (w : World) (hx : x.In w w.heap.size) (hh : HeavyA x.d) :
    Calls Tryd.prog 6 #[.agg #[.int .i64 z, .int .i64 d, .int .i64 s, .int .i64 l, .int .i64 a], x.v, .int .i64 ii, .int .i64 kk] w fun e w' => e = .returned (.bool true) ∧ Below w.heap.size w w' := by
  have cH := fun W (hW : Below w.heap.size w W) => heavy_any true x W (hx.next hW) (iff_of_true rfl hh)
  unfold AV.v
  have GG := (g5_new w z d s l a).keep (bl (w.alloc (.cells #[.int .i64 z, .int .i64 d, .int .i64 s, .int .i64 l, .int .i64 a] 23)) (.cells #[.int .i64 x.gen, .int .i64 x.ep, .int .i64 x.pos, .int .i64 x.seq, .int .i64 x.last, .string x.lab, .slice x.HA x.hs.length x.hc] 31)) (by simp)
  have FF := ac_new (w.alloc (.cells #[.int .i64 z, .int .i64 d, .int .i64 s, .int .i64 l, .int .i64 a] 23)) x
  have hb0 := kal (bl w (.cells #[.int .i64 z, .int .i64 d, .int .i64 s, .int .i64 l, .int .i64 a] 23)) (.cells #[.int .i64 x.gen, .int .i64 x.ep, .int .i64 x.pos, .int .i64 x.seq, .int .i64 x.last, .string x.lab, .slice x.HA x.hs.length x.hc] 31)
  rw [show (w.alloc (.cells #[.int .i64 z, .int .i64 d, .int .i64 s, .int .i64 l, .int .i64 a] 23)).heap.size = w.heap.size + 1 by simp] at FF
  have l1 : w.heap.size + 1 < ((w.alloc (.cells #[.int .i64 z, .int .i64 d, .int .i64 s, .int .i64 l, .int .i64 a] 23)).alloc (.cells #[.int .i64 x.gen, .int .i64 x.ep, .int .i64 x.pos, .int .i64 x.seq, .int .i64 x.last, .string x.lab, .slice x.HA x.hs.length x.hc] 31)).heap.size := by simp
  unfold AV.v at cH
  clear hx hh
  go_enter Tryd.func6, Tryd.ntmps6
  go_upto_region 1 with fail
  generalize (w.alloc (.cells #[.int .i64 z, .int .i64 d, .int .i64 s, .int .i64 l, .int .i64 a] 23)).alloc (.cells #[.int .i64 x.gen, .int .i64 x.ep, .int .i64 x.pos, .int .i64 x.seq, .int .i64 x.last, .string x.lab, .slice x.HA x.hs.length x.hc] 31) = w0 at *
  obtain ⟨c0, c1, c2, c3, c4, c5, c6⟩ := id FF
  obtain ⟨g0, g1, g2, g3, g4⟩ := id GG
  go_wp2_with (first
    | (go_at_call 8; (with_reducible refine (cH _ hb0).mono ?_); rintro e wq ⟨rfl, hbq⟩; replace FF := FF.keep hbq (by omega); replace GG := GG.keep hbq (by omega); replace l1 := Nat.lt_of_lt_of_le l1 hbq.size; clear c0 c1 c2 c3 c4 c5 c6 g0 g1 g2 g3 g4; obtain ⟨c0, c1, c2, c3, c4, c5, c6⟩ := id FF; obtain ⟨g0, g1, g2, g3, g4⟩ := id GG; replace hb0 := bt hb0 hbq; clear hbq))
  go_ret
  exact ⟨rfl, hb0⟩
set_option maxRecDepth 100000 in
set_option maxHeartbeats 8000000 in
theorem nm_geo (z d s l a : Int) (x : AV) (ii kk : Int) (w : World) (hx : x.In w w.heap.size) (hh : ¬ HeavyA x.d) (ho : ¬ Ok z d s l a) :
    Calls Tryd.prog 6 #[.agg #[.int .i64 z, .int .i64 d, .int .i64 s, .int .i64 l, .int .i64 a], x.v, .int .i64 ii, .int .i64 kk] w fun e w' => e = .returned (.bool true) ∧ Below w.heap.size w w' := by
  have cH := fun W (hW : Below w.heap.size w W) => heavy_any false x W (hx.next hW) (iff_of_false Bool.false_ne_true hh)
  have cG := fun W => rgeo_at false z d s l a W (iff_of_false Bool.false_ne_true ho)
  unfold AV.v
  have GG := (g5_new w z d s l a).keep (bl (w.alloc (.cells #[.int .i64 z, .int .i64 d, .int .i64 s, .int .i64 l, .int .i64 a] 23)) (.cells #[.int .i64 x.gen, .int .i64 x.ep, .int .i64 x.pos, .int .i64 x.seq, .int .i64 x.last, .string x.lab, .slice x.HA x.hs.length x.hc] 31)) (by simp)
  have FF := ac_new (w.alloc (.cells #[.int .i64 z, .int .i64 d, .int .i64 s, .int .i64 l, .int .i64 a] 23)) x
  have hb0 := kal (bl w (.cells #[.int .i64 z, .int .i64 d, .int .i64 s, .int .i64 l, .int .i64 a] 23)) (.cells #[.int .i64 x.gen, .int .i64 x.ep, .int .i64 x.pos, .int .i64 x.seq, .int .i64 x.last, .string x.lab, .slice x.HA x.hs.length x.hc] 31)
  rw [show (w.alloc (.cells #[.int .i64 z, .int .i64 d, .int .i64 s, .int .i64 l, .int .i64 a] 23)).heap.size = w.heap.size + 1 by simp] at FF
  have l1 : w.heap.size + 1 < ((w.alloc (.cells #[.int .i64 z, .int .i64 d, .int .i64 s, .int .i64 l, .int .i64 a] 23)).alloc (.cells #[.int .i64 x.gen, .int .i64 x.ep, .int .i64 x.pos, .int .i64 x.seq, .int .i64 x.last, .string x.lab, .slice x.HA x.hs.length x.hc] 31)).heap.size := by simp
  unfold AV.v at cH
  clear hx hh ho
  go_enter Tryd.func6, Tryd.ntmps6
  go_upto_region 1 with fail
  generalize (w.alloc (.cells #[.int .i64 z, .int .i64 d, .int .i64 s, .int .i64 l, .int .i64 a] 23)).alloc (.cells #[.int .i64 x.gen, .int .i64 x.ep, .int .i64 x.pos, .int .i64 x.seq, .int .i64 x.last, .string x.lab, .slice x.HA x.hs.length x.hc] 31) = w0 at *
  obtain ⟨c0, c1, c2, c3, c4, c5, c6⟩ := id FF
  obtain ⟨g0, g1, g2, g3, g4⟩ := id GG
  go_wp2_with (first
    | (go_at_call 8; (with_reducible refine (cH _ hb0).mono ?_); rintro e wq ⟨rfl, hbq⟩; replace FF := FF.keep hbq (by omega); replace GG := GG.keep hbq (by omega); replace l1 := Nat.lt_of_lt_of_le l1 hbq.size; clear c0 c1 c2 c3 c4 c5 c6 g0 g1 g2 g3 g4; obtain ⟨c0, c1, c2, c3, c4, c5, c6⟩ := id FF; obtain ⟨g0, g1, g2, g3, g4⟩ := id GG; replace hb0 := bt hb0 hbq; clear hbq)
    | (go_at_call 14; (with_reducible refine (cG _).mono ?_); rintro e wq ⟨rfl, hbq⟩; replace FF := FF.keep hbq (by omega); replace GG := GG.keep hbq (by omega); replace l1 := Nat.lt_of_lt_of_le l1 hbq.size; clear c0 c1 c2 c3 c4 c5 c6 g0 g1 g2 g3 g4; obtain ⟨c0, c1, c2, c3, c4, c5, c6⟩ := id FF; obtain ⟨g0, g1, g2, g3, g4⟩ := id GG; replace hb0 := bt hb0 hbq; clear hbq))
  go_ret
  exact ⟨rfl, hb0⟩
set_option maxRecDepth 100000 in
set_option maxHeartbeats 8000000 in
theorem nm_bad (z d s l a : Int) (x : AV) (ii kk : Int) (w : World) (hx : x.In w w.heap.size) (hh : ¬ HeavyA x.d) (ho : Ok z d s l a) (hg : ¬ anc.Good z d s l x.d) :
    Calls Tryd.prog 6 #[.agg #[.int .i64 z, .int .i64 d, .int .i64 s, .int .i64 l, .int .i64 a], x.v, .int .i64 ii, .int .i64 kk] w fun e w' => e = .returned (.bool true) ∧ Below w.heap.size w w' := by
  obtain ⟨t1, t2, t3⟩ := light hh
  have cH := fun W (hW : Below w.heap.size w W) => heavy_any false x W (hx.next hW) (iff_of_false Bool.false_ne_true hh)
  have cG := fun W => rgeo_at true z d s l a W (iff_of_true rfl ho)
  have cR := fun W (hW : Below w.heap.size w W) => right_p z d s l a false x W ho (hx.next hW) (by omega) (fun r hr => by have := t3 r hr; omega) (by omega) (iff_of_false Bool.false_ne_true hg)
  unfold AV.v
  have GG := (g5_new w z d s l a).keep (bl (w.alloc (.cells #[.int .i64 z, .int .i64 d, .int .i64 s, .int .i64 l, .int .i64 a] 23)) (.cells #[.int .i64 x.gen, .int .i64 x.ep, .int .i64 x.pos, .int .i64 x.seq, .int .i64 x.last, .string x.lab, .slice x.HA x.hs.length x.hc] 31)) (by simp)
  have FF := ac_new (w.alloc (.cells #[.int .i64 z, .int .i64 d, .int .i64 s, .int .i64 l, .int .i64 a] 23)) x
  have hb0 := kal (bl w (.cells #[.int .i64 z, .int .i64 d, .int .i64 s, .int .i64 l, .int .i64 a] 23)) (.cells #[.int .i64 x.gen, .int .i64 x.ep, .int .i64 x.pos, .int .i64 x.seq, .int .i64 x.last, .string x.lab, .slice x.HA x.hs.length x.hc] 31)
  rw [show (w.alloc (.cells #[.int .i64 z, .int .i64 d, .int .i64 s, .int .i64 l, .int .i64 a] 23)).heap.size = w.heap.size + 1 by simp] at FF
  have l1 : w.heap.size + 1 < ((w.alloc (.cells #[.int .i64 z, .int .i64 d, .int .i64 s, .int .i64 l, .int .i64 a] 23)).alloc (.cells #[.int .i64 x.gen, .int .i64 x.ep, .int .i64 x.pos, .int .i64 x.seq, .int .i64 x.last, .string x.lab, .slice x.HA x.hs.length x.hc] 31)).heap.size := by simp
  unfold AV.v at cH cR
  clear hx hh ho hg t1 t2 t3
  go_enter Tryd.func6, Tryd.ntmps6
  go_upto_region 1 with fail
  generalize (w.alloc (.cells #[.int .i64 z, .int .i64 d, .int .i64 s, .int .i64 l, .int .i64 a] 23)).alloc (.cells #[.int .i64 x.gen, .int .i64 x.ep, .int .i64 x.pos, .int .i64 x.seq, .int .i64 x.last, .string x.lab, .slice x.HA x.hs.length x.hc] 31) = w0 at *
  obtain ⟨c0, c1, c2, c3, c4, c5, c6⟩ := id FF
  obtain ⟨g0, g1, g2, g3, g4⟩ := id GG
  go_wp2_with (first
    | (go_at_call 8; (with_reducible refine (cH _ hb0).mono ?_); rintro e wq ⟨rfl, hbq⟩; replace FF := FF.keep hbq (by omega); replace GG := GG.keep hbq (by omega); replace l1 := Nat.lt_of_lt_of_le l1 hbq.size; clear c0 c1 c2 c3 c4 c5 c6 g0 g1 g2 g3 g4; obtain ⟨c0, c1, c2, c3, c4, c5, c6⟩ := id FF; obtain ⟨g0, g1, g2, g3, g4⟩ := id GG; replace hb0 := bt hb0 hbq; clear hbq)
    | (go_at_call 14; (with_reducible refine (cG _).mono ?_); rintro e wq ⟨rfl, hbq⟩; replace FF := FF.keep hbq (by omega); replace GG := GG.keep hbq (by omega); replace l1 := Nat.lt_of_lt_of_le l1 hbq.size; clear c0 c1 c2 c3 c4 c5 c6 g0 g1 g2 g3 g4; obtain ⟨c0, c1, c2, c3, c4, c5, c6⟩ := id FF; obtain ⟨g0, g1, g2, g3, g4⟩ := id GG; replace hb0 := bt hb0 hbq; clear hbq)
    | (go_at_call 19; (with_reducible refine (cR _ hb0).mono ?_); rintro e wq ⟨rfl, hbq⟩; replace FF := FF.keep hbq (by omega); replace GG := GG.keep hbq (by omega); replace l1 := Nat.lt_of_lt_of_le l1 hbq.size; clear c0 c1 c2 c3 c4 c5 c6 g0 g1 g2 g3 g4; obtain ⟨c0, c1, c2, c3, c4, c5, c6⟩ := id FF; obtain ⟨g0, g1, g2, g3, g4⟩ := id GG; replace hb0 := bt hb0 hbq; clear hbq))
  go_ret
  exact ⟨rfl, hb0⟩
theorem few_of {p x : AV} {n : Nat} (h : p.d = x.d) (hs : anc.HShort n x.hs) : anc.HShort n p.hs := fun r hr => by
  have h1 : r.d ∈ anc.hds x.hs := by rw [show anc.hds x.hs = anc.hds p.hs from (congrArg Anc.hs h).symm]; exact List.mem_map_of_mem hr
  obtain ⟨q, hq, he⟩ := List.mem_map.1 h1
  have h2 := hs q hq
  have h3 : q.ps = r.ps := congrArg anc.Hom.ps he
  rwa [h3] at h2
theorem lies_al {w : World} {X : Option Addr} {x : Nat} {l : List UInt8} (h : Lies w X x l) (o : Obj) : Lies (w.alloc o) X x l := ⟨h.1, h.2.1, h.2.2.next (bl w o)⟩
theorem says_moved {z d s l a : Int} {X : Anc} {i : Nat} {k : Int} (ho : Ok z d s l a) (hg : anc.Good z d s l X) (hi : i < 65536) (hk : (i : Int) ≠ k) : sayO z d s l 0 (enc i X.gen.toNat (encA X)) k = none := sayO_none fun Y h => by
  obtain ⟨-, h1, h2, h3, h4⟩ := h
  obtain ⟨p1, -, p2, p3⟩ := enc96 ho hg
  obtain ⟨q1, -, q2, q3⟩ := enc96 ho h3
  have := (enc_inj (by omega) (by omega) p1 (by omega) (by omega) q1 h4).1
  omega
theorem says_stamp {z d s l a : Int} {X Y : Anc} {i S : Nat} (ho : Ok z d s l a) (hg : anc.Good z d s l X) (hi : i < 65536) (hS : S < 4294967296) (h : sayO z d s l 0 (enc i S (encA X)) (i : Int) = some Y) : X.gen = (S : Int) := by
  obtain ⟨-, h1, h2, h3, h4⟩ := sayO_says h
  obtain ⟨p1, -, p2, p3⟩ := enc96 ho hg
  obtain ⟨q1, -, q2, q3⟩ := enc96 ho h3
  obtain ⟨-, e2, e3⟩ := enc_inj (by omega) hS p1 (by omega) (by omega) q1 h4
  have hXY : X = Y := (anc.good_enc ho hg h3).1 e3
  rw [hXY]
  omega
set_option maxRecDepth 100000 in
set_option maxHeartbeats 8000000 in
theorem nm_good (j k : Nat) (z d s l a : Int) (x : AV) (ii kk : Int) (w : World) (hc : Cts w) (hx : x.In w w.heap.size) (hh : ¬ HeavyA x.d) (ho : Ok z d s l a) (hg : anc.Good z d s l x.d) (hj : (IntKind.u64.wrap ii) % a = (j : Int)) (hja : (j : Int) < a) (hk : (IntKind.u64.wrap kk) % 300 = (k : Int)) :
    Calls Tryd.prog 6 #[.agg #[.int .i64 z, .int .i64 d, .int .i64 s, .int .i64 l, .int .i64 a], x.v, .int .i64 ii, .int .i64 kk] w fun e w' => e = .returned (.bool true) ∧ Below w.heap.size w w' := by
  obtain ⟨t1, t2, t3⟩ := light hh
  have HC := Lib.hid hc
  have cH := fun W (hW : Below w.heap.size w W) => heavy_any false x W (hx.next hW) (iff_of_false Bool.false_ne_true hh)
  have cG := fun W => rgeo_at true z d s l a W (iff_of_true rfl ho)
  have cR := fun W (hW : Below w.heap.size w W) => right_p z d s l a true x W ho (hx.next hW) (by omega) (fun r hr => by have := t3 r hr; omega) (by omega) (iff_of_true rfl hg)
  have HX := Lib.hid hx
  have HG := Lib.hid hg
  have HO := Lib.hid ho
  have HSH := Lib.hid (show x.hs.length ≤ 1048576 ∧ anc.HShort 1048576 x.hs from ⟨by omega, fun r hr => by have := t3 r hr; omega⟩)
  have hk3 : k < 300 := by have := Int.emod_lt_of_pos (IntKind.u64.wrap kk) (show (0 : Int) < 300 by omega); omega
  have ha3 : a ≤ 3 := by have := ho.2.2.2.2; omega
  have hj1 := hj
  have hj2 : (IntKind.u64.wrap ii).tmod a = (j : Int) := by rw [Int.tmod_eq_emod_of_nonneg (wrap_nonneg ii)]; exact hj
  have hk2 : (IntKind.u64.wrap kk).tmod 300 = (k : Int) := by rw [Int.tmod_eq_emod_of_nonneg (wrap_nonneg kk)]; exact hk
  have ha1 : IntKind.u64.wrap a = a := IntWalk.u64_in _ (by omega)
  have HJ := Lib.hid (And.intro hj1 (And.intro hj2 (And.intro hk (And.intro hk2 ha1))))
  clear hj1 hj2 hk2 ha1 hj hk
  unfold AV.v
  have GG := (g5_new w z d s l a).keep (bl (w.alloc (.cells #[.int .i64 z, .int .i64 d, .int .i64 s, .int .i64 l, .int .i64 a] 23)) (.cells #[.int .i64 x.gen, .int .i64 x.ep, .int .i64 x.pos, .int .i64 x.seq, .int .i64 x.last, .string x.lab, .slice x.HA x.hs.length x.hc] 31)) (by simp)
  have FF := ac_new (w.alloc (.cells #[.int .i64 z, .int .i64 d, .int .i64 s, .int .i64 l, .int .i64 a] 23)) x
  have hb0 := kal (bl w (.cells #[.int .i64 z, .int .i64 d, .int .i64 s, .int .i64 l, .int .i64 a] 23)) (.cells #[.int .i64 x.gen, .int .i64 x.ep, .int .i64 x.pos, .int .i64 x.seq, .int .i64 x.last, .string x.lab, .slice x.HA x.hs.length x.hc] 31)
  rw [show (w.alloc (.cells #[.int .i64 z, .int .i64 d, .int .i64 s, .int .i64 l, .int .i64 a] 23)).heap.size = w.heap.size + 1 by simp] at FF
  have l1 : w.heap.size + 1 < ((w.alloc (.cells #[.int .i64 z, .int .i64 d, .int .i64 s, .int .i64 l, .int .i64 a] 23)).alloc (.cells #[.int .i64 x.gen, .int .i64 x.ep, .int .i64 x.pos, .int .i64 x.seq, .int .i64 x.last, .string x.lab, .slice x.HA x.hs.length x.hc] 31)).heap.size := by simp
  unfold AV.v at cH cR
  clear hx hh ho hg t1 t2 t3 hc
  go_enter Tryd.func6, Tryd.ntmps6
  go_upto_region 1 with fail
  generalize (w.alloc (.cells #[.int .i64 z, .int .i64 d, .int .i64 s, .int .i64 l, .int .i64 a] 23)).alloc (.cells #[.int .i64 x.gen, .int .i64 x.ep, .int .i64 x.pos, .int .i64 x.seq, .int .i64 x.last, .string x.lab, .slice x.HA x.hs.length x.hc] 31) = w0 at *
  obtain ⟨c0, c1, c2, c3, c4, c5, c6⟩ := id FF
  obtain ⟨g0, g1, g2, g3, g4⟩ := id GG
  go_upto_region 3 with (first
    | (go_at_call 8; (with_reducible refine (cH _ hb0).mono ?_); rintro e wq ⟨rfl, hbq⟩; replace FF := FF.keep hbq (by omega); replace GG := GG.keep hbq (by omega); replace l1 := Nat.lt_of_lt_of_le l1 hbq.size; clear c0 c1 c2 c3 c4 c5 c6 g0 g1 g2 g3 g4; obtain ⟨c0, c1, c2, c3, c4, c5, c6⟩ := id FF; obtain ⟨g0, g1, g2, g3, g4⟩ := id GG; replace hb0 := bt hb0 hbq; clear hbq)
    | (go_at_call 14; (with_reducible refine (cG _).mono ?_); rintro e wq ⟨rfl, hbq⟩; replace FF := FF.keep hbq (by omega); replace GG := GG.keep hbq (by omega); replace l1 := Nat.lt_of_lt_of_le l1 hbq.size; clear c0 c1 c2 c3 c4 c5 c6 g0 g1 g2 g3 g4; obtain ⟨c0, c1, c2, c3, c4, c5, c6⟩ := id FF; obtain ⟨g0, g1, g2, g3, g4⟩ := id GG; replace hb0 := bt hb0 hbq; clear hbq)
    | (go_at_call 19; (with_reducible refine (cR _ hb0).mono ?_); rintro e wq ⟨rfl, hbq⟩; replace FF := FF.keep hbq (by omega); replace GG := GG.keep hbq (by omega); replace l1 := Nat.lt_of_lt_of_le l1 hbq.size; clear c0 c1 c2 c3 c4 c5 c6 g0 g1 g2 g3 g4; obtain ⟨c0, c1, c2, c3, c4, c5, c6⟩ := id FF; obtain ⟨g0, g1, g2, g3, g4⟩ := id GG; replace hb0 := bt hb0 hbq; clear hbq))
  obtain ⟨j1, j2, j3, j4, j5⟩ := HJ.out
  have i1 : 1 ≤ a := by omega
  have i2 : ¬ a = 0 := by omega
  go_upto_region 4 with fail
  clear j1 j2 j3 j4 j5
  have HXI := Lib.hid (show ∀ W, Below w.heap.size w W → x.In W W.heap.size from fun W hW => HX.out.next hW)
  obtain ⟨h96, -, hg0, hg1⟩ := enc96 HO.out HG.out
  have hgen : x.d.gen = x.gen := rfl
  rw [hgen] at hg0 hg1
  obtain ⟨L, hL⟩ : ∃ L, L = enc j x.gen.toNat (encA x.d) := ⟨_, rfl⟩
  obtain ⟨q, hq⟩ : ∃ q, q = (encA x.d).length + 11 := ⟨_, rfl⟩
  have hLq : L.length = q := by rw [hL, enc_length, hq]
  have HCL := Lib.hid (show ∀ W, Below w.heap.size w W → Calls Tryd.prog 12 #[.agg #[.int .i64 z, .int .i64 d, .int .i64 s, .int .i64 l, .int .i64 a], x.v, .int .i64 j] W fun e' w' => CellQ W.heap.size q L e' w' ∧ Below W.heap.size W w' from fun W hW => by
    have h9 := HC.out.cell z d s l a j x W hW HO.out (HXI.out W hW) HG.out (by omega) hja
    rw [Int.toNat_natCast] at h9
    rw [hL, hq]
    exact h9)
  have HSO := Lib.hid (show ∀ (e addr : Int) (A : Option Addr) (n c : Nat) (b : List UInt8) (W : World), Below w.heap.size w W → b.length = n → n ≤ c → c ≤ maxLen → Sl W W.heap.size A b → Calls Tryd.prog 10 #[.agg #[.int .i64 z, .int .i64 d, .int .i64 s, .int .i64 l, .int .i64 a], .agg #[.int .i64 e, .slice A n c], .int .i64 addr] W fun e' w' => RdQ W.heap.size ((sayO z d s l e b addr).getD noAnc) (sayO z d s l e b addr).isSome e' w' ∧ Below W.heap.size W w' from fun e addr A n c b W hW => HC.out.says z d s l a e addr A n c b W hW HO.out)
  have HLQ := Lib.hid hLq
  have HLE := Lib.hid hL
  have hj6 : j < 65536 := by omega
  unfold AV.v at HCL
  clear hLq hL hq
  go_upto_region 5 with (go_at_call 12; (with_reducible refine (HCL.out _ hb0).mono ?_); rintro e w5 ⟨⟨Y, y, rfl, hYo⟩, hbq⟩; obtain ⟨hY1, hY2, hY⟩ := own_ly hYo; clear hYo; replace FF := FF.keep hbq (by omega); replace GG := GG.keep hbq (by omega); replace l1 := Nat.lt_of_lt_of_le l1 hbq.size; clear c0 c1 c2 c3 c4 c5 c6 g0 g1 g2 g3 g4; obtain ⟨c0, c1, c2, c3, c4, c5, c6⟩ := id FF; obtain ⟨g0, g1, g2, g3, g4⟩ := id GG; replace hb0 := bt hb0 hbq; clear hbq)
  rw [HLQ.out] at hY1
  obtain ⟨o1, ho1⟩ : ∃ o, o = sayO z d s l 0 L (k : Int) := ⟨_, rfl⟩
  have HO1 := Lib.hid ho1
  have HS1 := Lib.hid (show Calls Tryd.prog 10 #[.agg #[.int .i64 z, .int .i64 d, .int .i64 s, .int .i64 l, .int .i64 a], .agg #[.int .i64 0, .slice Y q y], .int .i64 k] w5 fun e' w' => RdQ w5.heap.size (o1.getD noAnc) o1.isSome e' w' ∧ Below w5.heap.size w5 w' from by
    rw [ho1]
    exact HSO.out 0 k Y q y L w5 hb0 HLQ.out hY1 hY2 hY)
  clear ho1
  go_upto_region 6 with (go_at_call 10; (with_reducible refine HS1.out.mono ?_); rintro e w6 ⟨⟨p, hep, hpd, hpo⟩, hbq⟩; rw [AV.v] at hep; subst hep; replace hY := hY.next hbq; replace FF := FF.keep hbq (by omega); replace GG := GG.keep hbq (by omega); replace l1 := Nat.lt_of_lt_of_le l1 hbq.size; clear c0 c1 c2 c3 c4 c5 c6 g0 g1 g2 g3 g4; obtain ⟨c0, c1, c2, c3, c4, c5, c6⟩ := id FF; obtain ⟨g0, g1, g2, g3, g4⟩ := id GG; replace hb0 := bt hb0 hbq; clear hbq)
  have hpi := AV.Own.inn hpo
  have hxA := bl w6 (.cells #[.int .i64 p.gen, .int .i64 p.ep, .int .i64 p.pos, .int .i64 p.seq, .int .i64 p.last, .string p.lab, .slice p.HA p.hs.length p.hc] 31)
  have FP := ac_new w6 p
  have lP : w6.heap.size < (w6.alloc (.cells #[.int .i64 p.gen, .int .i64 p.ep, .int .i64 p.pos, .int .i64 p.seq, .int .i64 p.last, .string p.lab, .slice p.HA p.hs.length p.hc] 31)).heap.size := by simp
  have HPI := Lib.hid (hpi.next hxA)
  replace hY := hY.next hxA
  replace FF := FF.keep hxA (by omega)
  replace GG := GG.keep hxA (by omega)
  replace hb0 := bt hb0 hxA
  obtain ⟨gP, hgP⟩ : ∃ g, g = w6.heap.size := ⟨_, rfl⟩
  rw [← hgP] at FP lP l1 ⊢
  have HPD := Lib.hid hpd
  clear hgP hxA hpi hpo hpd c0 c1 c2 c3 c4 c5 c6 g0 g1 g2 g3 g4 HS1
  generalize w6.alloc (.cells #[.int .i64 p.gen, .int .i64 p.ep, .int .i64 p.pos, .int .i64 p.seq, .int .i64 p.last, .string p.lab, .slice p.HA p.hs.length p.hc] 31) = w7 at *
  have HF := Lib.hid (show ∀ W, Below w7.heap.size w7 W → W.cell? ⟨w.heap.size + 1, 0, none⟩ = some (.int .i64 x.gen) ∧ W.cell? ⟨w.heap.size + 1, 1, none⟩ = some (.int .i64 x.ep) ∧ W.cell? ⟨w.heap.size + 1, 2, none⟩ = some (.int .i64 x.pos) ∧ W.cell? ⟨w.heap.size + 1, 3, none⟩ = some (.int .i64 x.seq) ∧ W.cell? ⟨w.heap.size + 1, 4, none⟩ = some (.int .i64 x.last) ∧ W.cell? ⟨w.heap.size + 1, 5, none⟩ = some (.string x.lab) ∧ W.cell? ⟨w.heap.size + 1, 6, none⟩ = some (.slice x.HA x.hs.length x.hc) ∧ W.cell? ⟨w.heap.size, 0, none⟩ = some (.int .i64 z) ∧ W.cell? ⟨w.heap.size, 1, none⟩ = some (.int .i64 d) ∧ W.cell? ⟨w.heap.size, 2, none⟩ = some (.int .i64 s) ∧ W.cell? ⟨w.heap.size, 3, none⟩ = some (.int .i64 l) ∧ W.cell? ⟨w.heap.size, 4, none⟩ = some (.int .i64 a) ∧ Below w7.heap.size w7 W from fun W h => by
    obtain ⟨c0, c1, c2, c3, c4, c5, c6⟩ := FF.keep h (by omega)
    obtain ⟨g0, g1, g2, g3, g4⟩ := GG.keep h (by omega)
    exact ⟨c0, c1, c2, c3, c4, c5, c6, g0, g1, g2, g3, g4, h⟩)
  have hm0 := Int.emod_nonneg (x.gen + 1) (show (1000 : Int) ≠ 0 by omega)
  have hm1 := Int.emod_lt_of_pos (x.gen + 1) (show (0 : Int) < 1000 by omega)
  obtain ⟨m, hm⟩ : ∃ m : Nat, (x.gen + 1) % 1000 = (m : Int) := ⟨((x.gen + 1) % 1000).toNat, by omega⟩
  have v1 : IntKind.i64.wrap (x.gen + 1) = x.gen + 1 := IntWalk.i64_in _ (by omega)
  have v2 : (x.gen + 1).tmod 1000 = (m : Int) := by rw [Int.tmod_eq_emod_of_nonneg (by omega)]; exact hm
  obtain ⟨S, hS⟩ : ∃ S : Nat, S = m + 1000000 := ⟨_, rfl⟩
  have hS2 : S < 4294967296 := by omega
  have hS3 : 1000000 ≤ S := by omega
  have v3 : IntKind.i64.wrap ((m : Int) + 1000000) = (S : Int) := by rw [hS]; exact (IntWalk.i64_in _ (by omega)).trans (by omega)
  obtain ⟨M, hM⟩ : ∃ M, M = enc j S (encA x.d) := ⟨_, rfl⟩
  have hMl : M.length = (encA x.d).length + 11 := by rw [hM, enc_length]
  obtain ⟨qa, hqa⟩ : ∃ q, q = (encA x.d).length := ⟨_, rfl⟩
  rw [← hqa] at hMl h96
  have HAB := Lib.hid (show ∀ W, Below w7.heap.size w7 W → Calls Tryd.prog 26 #[x.v] W fun e w' => One W.heap.size (encA x.d) e w' ∧ Below W.heap.size W w' from fun W hW => anc.rbytes_any z d s l a x W HO.out (HXI.out W (bt hb0 hW)) HG.out)
  have HCE := Lib.hid (show ∀ (W : World) (B : Option Addr) (c : Nat), Sl W W.heap.size B (encA x.d) → Calls Tryd.prog 25 #[.int .i64 j, .int .i64 S, .slice B qa c] W fun e w' => BytA (qa + 11) M e w' ∧ Below W.heap.size W w' from fun W B c h => by
    have h9 := rcell_any j S (encA x.d).length c B (encA x.d) W hj6 hS2 rfl (by omega) h
    rw [hM, hqa]
    exact h9)
  obtain ⟨o2, ho2⟩ : ∃ o, o = sayO z d s l 0 M (j : Int) := ⟨_, rfl⟩
  have HO2 := Lib.hid (show ∀ Y, o2 = some Y → 1000000 ≤ x.gen from fun Y h => by
    rw [ho2, hM] at h
    have h9 : x.gen = (S : Int) := says_stamp HO.out HG.out hj6 hS2 h
    omega)
  have HSM := Lib.hid (show ∀ (W : World) (B : Option Addr) (c : Nat), Below w7.heap.size w7 W → Lies W B c M → Calls Tryd.prog 10 #[.agg #[.int .i64 z, .int .i64 d, .int .i64 s, .int .i64 l, .int .i64 a], .agg #[.int .i64 0, .slice B (qa + 11) c], .int .i64 j] W fun e' w' => RdQ W.heap.size (o2.getD noAnc) o2.isSome e' w' ∧ Below W.heap.size W w' from fun W B c hW h => by
    rw [ho2]
    exact HSO.out 0 j B (qa + 11) c M W (bt hb0 hW) hMl (by have := h.1; omega) h.2.1 h.2.2)
  have HQA := Lib.hid hqa
  have HVV := Lib.hid (show ∀ W, Below w7.heap.size w7 W → AC W gP p from fun W h => FP.keep h lP)
  unfold AV.v at HAB
  clear hm hm0 hm1 hS hM hMl hqa ho2 HCL
  go_cut [13, 14] from 57 to 71 (fun v13 v14 wx => v14 = .bool o2.isSome ∧ Below w7.heap.size w7 wx)
  case first =>
    clear FF GG FP
    go_region_held3 (fun W => W.cell? ⟨w.heap.size + 1, 0, none⟩ = some (.int .i64 x.gen) ∧ W.cell? ⟨w.heap.size + 1, 1, none⟩ = some (.int .i64 x.ep) ∧ W.cell? ⟨w.heap.size + 1, 2, none⟩ = some (.int .i64 x.pos) ∧ W.cell? ⟨w.heap.size + 1, 3, none⟩ = some (.int .i64 x.seq) ∧ W.cell? ⟨w.heap.size + 1, 4, none⟩ = some (.int .i64 x.last) ∧ W.cell? ⟨w.heap.size + 1, 5, none⟩ = some (.string x.lab) ∧ W.cell? ⟨w.heap.size + 1, 6, none⟩ = some (.slice x.HA x.hs.length x.hc) ∧ W.cell? ⟨w.heap.size, 0, none⟩ = some (.int .i64 z) ∧ W.cell? ⟨w.heap.size, 1, none⟩ = some (.int .i64 d) ∧ W.cell? ⟨w.heap.size, 2, none⟩ = some (.int .i64 s) ∧ W.cell? ⟨w.heap.size, 3, none⟩ = some (.int .i64 l) ∧ W.cell? ⟨w.heap.size, 4, none⟩ = some (.int .i64 a) ∧ Below w7.heap.size w7 W)
      ((refine HF.out _ ?_; first
        | with_reducible exact below7 (below_dr hb3) (Nat.le_refl _)
        | with_reducible exact below7 hb3 (Nat.le_refl _)
        | with_reducible exact below7 hb3 hgz
        | with_reducible exact hb3
        | with_reducible exact kal hb3 _
        | with_reducible exact hb2
        | with_reducible exact kal hb2 _
        | with_reducible exact hb1
        | with_reducible exact kal hb1 _
        | with_reducible exact below_dr (bl w7 _)
        | with_reducible exact bl w7 _
        | with_reducible exact below_dr (Below.refl _ _)
        | fail))
      (first
        | (go_at_call 26; (with_reducible refine (HAB.out _ (below_dr (Below.refl _ _))).mono ?_); rintro e w8 ⟨⟨vb, rfl, ob⟩, hbq⟩; obtain ⟨B8, c8, hv8, -, -, hs8, -⟩ := ob.form; rw [← HQA.out] at hv8; subst hv8; have hb1 := bt (below_dr (Below.refl w7.heap.size w7)) hbq; clear hbq)
        | (go_at_call 26; (with_reducible refine (HAB.out _ (below_dr (bl w7 _))).mono ?_); rintro e w8 ⟨⟨vb, rfl, ob⟩, hbq⟩; obtain ⟨B8, c8, hv8, -, -, hs8, -⟩ := ob.form; rw [← HQA.out] at hv8; subst hv8; have hb1 := bt (below_dr (bl w7 _)) hbq; have PY := (zer_new w7).dr.nx hbq; have hgz : w7.heap.size ≤ w7.heap.size := Nat.le_refl _; clear hbq)
        | (go_at_call 25; (with_reducible refine (HCE.out _ _ _ hs8).mono ?_); rintro e w9 ⟨⟨B9, c9, rfl, hl9⟩, hbq⟩; have hb2 := bt hb1 hbq; try (replace PY := PY.nx hbq); clear hbq)
        | (go_at_call 25; (with_reducible refine (HCE.out _ _ _ (hs8.next (bl w8 _))).mono ?_); rintro e w9 ⟨⟨B9, c9, rfl, hl9⟩, hbq⟩; have hb2 := bt (kal hb1 _) hbq; have PY := (zer_new w8).nx hbq; have hgz : w7.heap.size ≤ w8.heap.size := hb1.size; clear hbq)
        | (go_at_call 10; (with_reducible refine (HSM.out _ _ _ hb2 hl9).mono ?_); rintro e w10 ⟨⟨r, her, -, -⟩, hbq⟩; rw [AV.v] at her; subst her; have hb3 := bt hb2 hbq; try (replace PY := PY.nx hbq); try (obtain ⟨z0, z1, z2, z3, z4, z5, z6, f0, f1, f2, f3, f4, f5, f6⟩ := id PY); clear hbq)
        | (go_at_call 10; (with_reducible refine (HSM.out _ _ _ (kal hb2 _) (lies_al hl9 _)).mono ?_); rintro e w10 ⟨⟨r, her, -, -⟩, hbq⟩; rw [AV.v] at her; subst her; have hb3 := bt (kal hb2 _) hbq; have PY := (zer_new w9).nx hbq; have hgz : w7.heap.size ≤ w9.heap.size := hb2.size; obtain ⟨z0, z1, z2, z3, z4, z5, z6, f0, f1, f2, f3, f4, f5, f6⟩ := id PY; clear hbq)
        | fail)
    all_goals (go_wp2_with fail; go_meet)
    all_goals first
      | (with_reducible exact ⟨rfl, kal hb3 _⟩)
      | exact ⟨rfl, below7 hb3 hgz⟩
  case rest =>
    obtain ⟨w8, rfl⟩ : ∃ x, x = wc := ⟨wc, rfl⟩
    obtain ⟨rfl, hb8⟩ := hcut
    have hY8 := hY.next hb8
    have HFP := Lib.hid (HVV.out w8 hb8)
    replace FF := FF.keep hb8 (by omega)
    replace GG := GG.keep hb8 (by omega)
    have hz8 := hb8.size
    have HPI8 := Lib.hid (HPI.out.next hb8)
    replace hb0 := bt hb0 hb8
    have lP8 : gP < w8.heap.size := by omega
    have HS3 := Lib.hid (show Calls Tryd.prog 10 #[.agg #[.int .i64 z, .int .i64 d, .int .i64 s, .int .i64 l, .int .i64 a], .agg #[.int .i64 6, .slice Y q y], .int .i64 j] w8 fun e' w' => RdQ w8.heap.size noAnc false e' w' ∧ Below w8.heap.size w8 w' from by
      have h9 := HSO.out 6 j Y q y L w8 hb0 HLQ.out hY1 hY2 hY8
      rw [says_not6 (by decide)] at h9
      exact h9)
    clear HVV HF HAB HCE HSM hY hY8 HPI v1 v2 v3 hb8 FP lP
    obtain ⟨g0, g1, g2, g3, g4⟩ := id GG
    go_upto_region 8 with (go_at_call 10; (with_reducible refine HS3.out.mono ?_); rintro e w9 ⟨⟨t, het, -, -⟩, hb9⟩; rw [AV.v] at het; subst het)
    have hxT := bl w9 (.cells #[.int .i64 t.gen, .int .i64 t.ep, .int .i64 t.pos, .int .i64 t.seq, .int .i64 t.last, .string t.lab, .slice t.HA t.hs.length t.hc] 31)
    have hb9' := bt hb9 hxT
    have FPx := HFP.out.keep hb9' lP8
    replace FF := FF.keep hb9' (by omega)
    have HPI9 := Lib.hid (HPI8.out.next hb9')
    replace hb0 := bt hb0 hb9'
    clear hb9 hxT hb9' g0 g1 g2 g3 g4 GG HS3 HPI8 HFP
    generalize w9.alloc (.cells #[.int .i64 t.gen, .int .i64 t.ep, .int .i64 t.pos, .int .i64 t.seq, .int .i64 t.last, .string t.lab, .slice t.HA t.hs.length t.hc] 31) = w10 at *
    obtain ⟨c0, c1, c2, c3, c4, c5, c6⟩ := id FF
    obtain ⟨p0, p1, p2, p3, p4, p5, p6⟩ := id FPx
    have HWK := Lib.hid (show ∀ W, Below w.heap.size w W → Calls Tryd.prog 16 #[] W fun e w' => e = .returned (.bool true) ∧ Below W.heap.size W w' from fun W hW => wk_new W (HC.out.next hW))
    have HW2 : o2 = none ∨ (∃ v, o2 = some v) := by cases o2 <;> simp
    by_cases hjk : j = k
    · have h1 : o1 = some x.d := by
        rw [HO1.out, HLE.out, ← hjk]
        exact sayO_some HO.out (says_enc HG.out hj6)
      subst h1
      have hpx : p.d = x.d := HPD.out
      have q1 : ((j : Int) == (k : Int)) = true := by rw [hjk]; exact beq_self_eq_true _
      have HAN := Lib.hid (show Calls Tryd.prog 15 #[.agg #[.int .i64 p.gen, .int .i64 p.ep, .int .i64 p.pos, .int .i64 p.seq, .int .i64 p.last, .string p.lab, .slice p.HA p.hs.length p.hc], .agg #[.int .i64 x.gen, .int .i64 x.ep, .int .i64 x.pos, .int .i64 x.seq, .int .i64 x.last, .string x.lab, .slice x.HA x.hs.length x.hc]] w10 fun e w' => e = .returned (.bool true) ∧ Below w10.heap.size w10 w' from by
        have hlp : p.hs.length = x.hs.length := (anc.hds_length p.hs).symm.trans ((congrArg (fun u : Anc => u.hs.length) hpx).trans (anc.hds_length x.hs))
        have h9 := anchor_any p x w10 HPI9.out (HXI.out w10 hb0) (by have := HSH.out.1; omega) (few_of hpx HSH.out.2)
        rwa [decide_eq_true hpx] at h9)
      rcases HW2 with rfl | ⟨v, rfl⟩
      · clear hjk hpx
        go_wp2_with (first
          | (go_at_call 15; (with_reducible refine HAN.out.mono ?_); rintro e wq ⟨rfl, hbq⟩; have hb11 := bt hb0 hbq)
          | (go_at_call 16; (with_reducible refine (HWK.out _ hb11).mono ?_); rintro e wz ⟨rfl, hbz⟩))
        go_ret
        exact ⟨rfl, bt hb11 hbz⟩
      · have q2 : (1000000 : Int) ≤ x.gen := HO2.out v rfl
        clear hjk hpx
        go_wp2_with (first
          | (go_at_call 15; (with_reducible refine HAN.out.mono ?_); rintro e wq ⟨rfl, hbq⟩; have hb11 := bt hb0 hbq; replace c0 := kst hbq (World.block_lt_of_cell? _ _ c0) c0)
          | (go_at_call 16; (with_reducible refine (HWK.out _ hb11).mono ?_); rintro e wz ⟨rfl, hbz⟩))
        go_ret
        exact ⟨rfl, bt hb11 hbz⟩
    · have h1 : o1 = none := by
        rw [HO1.out, HLE.out]
        exact says_moved HO.out HG.out hj6 (by omega)
      subst h1
      have q1 : ((j : Int) == (k : Int)) = false := beq_eq_false_iff_ne.2 (by omega)
      rcases HW2 with rfl | ⟨v, rfl⟩
      · clear hjk
        go_wp2_with (go_at_call 16; (with_reducible refine (HWK.out _ hb0).mono ?_); rintro e wz ⟨rfl, hbz⟩)
        go_ret
        exact ⟨rfl, bt hb0 hbz⟩
      · have q2 : (1000000 : Int) ≤ x.gen := HO2.out v rfl
        clear hjk
        go_wp2_with (go_at_call 16; (with_reducible refine (HWK.out _ hb0).mono ?_); rintro e wz ⟨rfl, hbz⟩)
        go_ret
        exact ⟨rfl, bt hb0 hbz⟩
theorem newestMoved_law (z d s l a : Int) (x : AV) (ii kk : Int) (w : World) (hc : Cts w) (hx : x.In w w.heap.size) :
    Calls Tryd.prog 6 #[.agg #[.int .i64 z, .int .i64 d, .int .i64 s, .int .i64 l, .int .i64 a], x.v, .int .i64 ii, .int .i64 kk] w fun e w' => e = .returned (.bool true) ∧ Below w.heap.size w w' := by
  by_cases hh : HeavyA x.d
  · exact nm_heavy z d s l a x ii kk w hx hh
  by_cases ho : Ok z d s l a
  case neg => exact nm_geo z d s l a x ii kk w hx hh ho
  by_cases hg : anc.Good z d s l x.d
  case neg => exact nm_bad z d s l a x ii kk w hx hh ho hg
  have ha := ho.2.2.2.2
  have h1 := Int.emod_nonneg (IntKind.u64.wrap ii) (show a ≠ 0 by omega)
  have h2 := Int.emod_lt_of_pos (IntKind.u64.wrap ii) (show 0 < a by omega)
  have h3 := Int.emod_nonneg (IntKind.u64.wrap kk) (show (300 : Int) ≠ 0 by omega)
  exact nm_good ((IntKind.u64.wrap ii) % a).toNat ((IntKind.u64.wrap kk) % 300).toNat z d s l a x ii kk w hc hx hh ho hg (by omega) (by omega) (by omega)
end Go.Proofs.YtdjleimndolonaaDoor.nwt
