/-
  PairElder: a record of an elder epoch. Conditions: 'Cpr', the laws' example.
-/
import Derived.Test.YtpcadoekhoediaaDoorGPp
import Derived.Test.YtpcadoekhoediaaDoorGPo
import Derived.Test.YtpcadoekhoediaaDoorGAu
import Derived.Test.YtpcadoekhoediaaDoorGGm
import Derived.IntWalk
import Derived.Deep.CutRange
namespace Go.Proofs.YtpcadoekhoediaaDoor.prr
open Go.RowKit Go.Lib
open Go.Proofs.YtpcadoekhoediaaDoor.gmt (Ok rgeo_at)
open Go.Proofs.YtpcadoekhoediaaDoor.anc (AV AC ac_new bl kal kst ks bm ka HeavyA light heavy_any right_p)
open Go.Proofs.YtpcadoekhoediaaDoor.tbl (G5 g5_new)
open Go.Proofs.YtpcadoekhoediaaDoor.lrc (Rcd RcR C8 c8_new noRec SlotOk cellN RecOk encR F8)
open Go.Proofs.YtpcadoekhoediaaDoor.sel (enc)

theorem bool_noE {b : Bool} {P : Prop} (h : b = true ↔ P) (hp : ¬ P) : b = false := by
  cases b
  · rfl
  · exact absurd (h.1 rfl) hp
theorem wrap_modE (i M : Int) (hM : 0 < M) : ∃ a : Nat, (a : Int) < M ∧ (IntKind.u64.wrap i).tmod M = (a : Int) := by
  obtain ⟨h1, h2⟩ := gmt.wrap_mod i M hM
  exact ⟨((IntKind.u64.wrap i).tmod M).toNat, by omega, by omega⟩
set_option maxRecDepth 100000 in
set_option maxHeartbeats 8000000 in
theorem elder_heavy (z d s l a : Int) (x : AV) (q0 e0 : Int) (w : World) (hx : x.In w w.heap.size) (hh : HeavyA x.d) :
    Calls Tryd.prog 3 #[.agg #[.int .i64 z, .int .i64 d, .int .i64 s, .int .i64 l, .int .i64 a], .agg #[.int .i64 x.gen, .int .i64 x.ep, .int .i64 x.pos, .int .i64 x.seq, .int .i64 x.last, .string x.lab, .slice x.HA x.hs.length x.hc], .int .i64 q0, .int .i64 e0] w fun e w' => e = .returned (.bool true) ∧ Below w.heap.size w w' := by
  have cH := fun W (hW : Below w.heap.size w W) => heavy_any true x W (hx.next hW) (iff_of_true rfl hh)
  unfold AV.v at *
  have GG := (g5_new w z d s l a).keep (bl (w.alloc (.cells #[.int .i64 z, .int .i64 d, .int .i64 s, .int .i64 l, .int .i64 a] 23)) (.cells #[.int .i64 x.gen, .int .i64 x.ep, .int .i64 x.pos, .int .i64 x.seq, .int .i64 x.last, .string x.lab, .slice x.HA x.hs.length x.hc] 26)) (by simp)
  have FF := ac_new (w.alloc (.cells #[.int .i64 z, .int .i64 d, .int .i64 s, .int .i64 l, .int .i64 a] 23)) x
  have hb0 := kal (bl w (.cells #[.int .i64 z, .int .i64 d, .int .i64 s, .int .i64 l, .int .i64 a] 23)) (.cells #[.int .i64 x.gen, .int .i64 x.ep, .int .i64 x.pos, .int .i64 x.seq, .int .i64 x.last, .string x.lab, .slice x.HA x.hs.length x.hc] 26)
  rw [show (w.alloc (.cells #[.int .i64 z, .int .i64 d, .int .i64 s, .int .i64 l, .int .i64 a] 23)).heap.size = w.heap.size + 1 by simp] at FF
  have l1 : w.heap.size + 1 < ((w.alloc (.cells #[.int .i64 z, .int .i64 d, .int .i64 s, .int .i64 l, .int .i64 a] 23)).alloc (.cells #[.int .i64 x.gen, .int .i64 x.ep, .int .i64 x.pos, .int .i64 x.seq, .int .i64 x.last, .string x.lab, .slice x.HA x.hs.length x.hc] 26)).heap.size := by simp
  clear hx hh
  go_enter Tryd.func3, Tryd.ntmps3
  go_upto_region 1 with fail
  generalize (w.alloc (.cells #[.int .i64 z, .int .i64 d, .int .i64 s, .int .i64 l, .int .i64 a] 23)).alloc (.cells #[.int .i64 x.gen, .int .i64 x.ep, .int .i64 x.pos, .int .i64 x.seq, .int .i64 x.last, .string x.lab, .slice x.HA x.hs.length x.hc] 26) = w0 at *
  obtain ⟨c0, c1, c2, c3, c4, c5, c6⟩ := id FF
  obtain ⟨g0, g1, g2, g3, g4⟩ := id GG
  go_wp2_with (first
    | (go_at_call 5; (with_reducible refine (cH _ hb0).mono ?_); rintro e wq ⟨rfl, hbq⟩; replace FF := FF.keep hbq (by omega); replace GG := GG.keep hbq (by omega); replace l1 := Nat.lt_of_lt_of_le l1 hbq.size; clear c0 c1 c2 c3 c4 c5 c6 g0 g1 g2 g3 g4; obtain ⟨c0, c1, c2, c3, c4, c5, c6⟩ := id FF; obtain ⟨g0, g1, g2, g3, g4⟩ := id GG; replace hb0 := bt hb0 hbq; clear hbq)
    | fail)
  go_ret
  exact ⟨rfl, hb0⟩
set_option maxRecDepth 100000 in
set_option maxHeartbeats 8000000 in
theorem elder_geo (z d s l a : Int) (x : AV) (q0 e0 : Int) (w : World) (hx : x.In w w.heap.size) (hh : ¬ HeavyA x.d) (ho : ¬ Ok z d s l a) :
    Calls Tryd.prog 3 #[.agg #[.int .i64 z, .int .i64 d, .int .i64 s, .int .i64 l, .int .i64 a], .agg #[.int .i64 x.gen, .int .i64 x.ep, .int .i64 x.pos, .int .i64 x.seq, .int .i64 x.last, .string x.lab, .slice x.HA x.hs.length x.hc], .int .i64 q0, .int .i64 e0] w fun e w' => e = .returned (.bool true) ∧ Below w.heap.size w w' := by
  have cH := fun W (hW : Below w.heap.size w W) => heavy_any false x W (hx.next hW) (iff_of_false Bool.false_ne_true hh)
  have cG := fun W => rgeo_at false z d s l a W (iff_of_false Bool.false_ne_true ho)
  unfold AV.v at *
  have GG := (g5_new w z d s l a).keep (bl (w.alloc (.cells #[.int .i64 z, .int .i64 d, .int .i64 s, .int .i64 l, .int .i64 a] 23)) (.cells #[.int .i64 x.gen, .int .i64 x.ep, .int .i64 x.pos, .int .i64 x.seq, .int .i64 x.last, .string x.lab, .slice x.HA x.hs.length x.hc] 26)) (by simp)
  have FF := ac_new (w.alloc (.cells #[.int .i64 z, .int .i64 d, .int .i64 s, .int .i64 l, .int .i64 a] 23)) x
  have hb0 := kal (bl w (.cells #[.int .i64 z, .int .i64 d, .int .i64 s, .int .i64 l, .int .i64 a] 23)) (.cells #[.int .i64 x.gen, .int .i64 x.ep, .int .i64 x.pos, .int .i64 x.seq, .int .i64 x.last, .string x.lab, .slice x.HA x.hs.length x.hc] 26)
  rw [show (w.alloc (.cells #[.int .i64 z, .int .i64 d, .int .i64 s, .int .i64 l, .int .i64 a] 23)).heap.size = w.heap.size + 1 by simp] at FF
  have l1 : w.heap.size + 1 < ((w.alloc (.cells #[.int .i64 z, .int .i64 d, .int .i64 s, .int .i64 l, .int .i64 a] 23)).alloc (.cells #[.int .i64 x.gen, .int .i64 x.ep, .int .i64 x.pos, .int .i64 x.seq, .int .i64 x.last, .string x.lab, .slice x.HA x.hs.length x.hc] 26)).heap.size := by simp
  clear hx hh ho
  go_enter Tryd.func3, Tryd.ntmps3
  go_upto_region 1 with fail
  generalize (w.alloc (.cells #[.int .i64 z, .int .i64 d, .int .i64 s, .int .i64 l, .int .i64 a] 23)).alloc (.cells #[.int .i64 x.gen, .int .i64 x.ep, .int .i64 x.pos, .int .i64 x.seq, .int .i64 x.last, .string x.lab, .slice x.HA x.hs.length x.hc] 26) = w0 at *
  obtain ⟨c0, c1, c2, c3, c4, c5, c6⟩ := id FF
  obtain ⟨g0, g1, g2, g3, g4⟩ := id GG
  go_wp2_with (first
    | (go_at_call 5; (with_reducible refine (cH _ hb0).mono ?_); rintro e wq ⟨rfl, hbq⟩; replace FF := FF.keep hbq (by omega); replace GG := GG.keep hbq (by omega); replace l1 := Nat.lt_of_lt_of_le l1 hbq.size; clear c0 c1 c2 c3 c4 c5 c6 g0 g1 g2 g3 g4; obtain ⟨c0, c1, c2, c3, c4, c5, c6⟩ := id FF; obtain ⟨g0, g1, g2, g3, g4⟩ := id GG; replace hb0 := bt hb0 hbq; clear hbq)
    | (go_at_call 6; (with_reducible refine (cG _).mono ?_); rintro e wq ⟨rfl, hbq⟩; replace FF := FF.keep hbq (by omega); replace GG := GG.keep hbq (by omega); replace l1 := Nat.lt_of_lt_of_le l1 hbq.size; clear c0 c1 c2 c3 c4 c5 c6 g0 g1 g2 g3 g4; obtain ⟨c0, c1, c2, c3, c4, c5, c6⟩ := id FF; obtain ⟨g0, g1, g2, g3, g4⟩ := id GG; replace hb0 := bt hb0 hbq; clear hbq)
    | fail)
  go_ret
  exact ⟨rfl, hb0⟩
set_option maxRecDepth 100000 in
set_option maxHeartbeats 8000000 in
theorem elder_bad (z d s l a : Int) (x : AV) (q0 e0 : Int) (w : World) (hx : x.In w w.heap.size) (hh : ¬ HeavyA x.d) (ho : Ok z d s l a) (hg : ¬ anc.Good z d s l x.d) :
    Calls Tryd.prog 3 #[.agg #[.int .i64 z, .int .i64 d, .int .i64 s, .int .i64 l, .int .i64 a], .agg #[.int .i64 x.gen, .int .i64 x.ep, .int .i64 x.pos, .int .i64 x.seq, .int .i64 x.last, .string x.lab, .slice x.HA x.hs.length x.hc], .int .i64 q0, .int .i64 e0] w fun e w' => e = .returned (.bool true) ∧ Below w.heap.size w w' := by
  have cH := fun W (hW : Below w.heap.size w W) => heavy_any false x W (hx.next hW) (iff_of_false Bool.false_ne_true hh)
  have cG := fun W => rgeo_at true z d s l a W (iff_of_true rfl ho)
  obtain ⟨t1, t2, t3⟩ := light hh
  have cR := fun W (hW : Below w.heap.size w W) => right_p z d s l a false x W ho (hx.next hW) (by omega) (fun r hr => by have := t3 r hr; omega) (by omega) (iff_of_false Bool.false_ne_true hg)
  unfold AV.v at *
  have GG := (g5_new w z d s l a).keep (bl (w.alloc (.cells #[.int .i64 z, .int .i64 d, .int .i64 s, .int .i64 l, .int .i64 a] 23)) (.cells #[.int .i64 x.gen, .int .i64 x.ep, .int .i64 x.pos, .int .i64 x.seq, .int .i64 x.last, .string x.lab, .slice x.HA x.hs.length x.hc] 26)) (by simp)
  have FF := ac_new (w.alloc (.cells #[.int .i64 z, .int .i64 d, .int .i64 s, .int .i64 l, .int .i64 a] 23)) x
  have hb0 := kal (bl w (.cells #[.int .i64 z, .int .i64 d, .int .i64 s, .int .i64 l, .int .i64 a] 23)) (.cells #[.int .i64 x.gen, .int .i64 x.ep, .int .i64 x.pos, .int .i64 x.seq, .int .i64 x.last, .string x.lab, .slice x.HA x.hs.length x.hc] 26)
  rw [show (w.alloc (.cells #[.int .i64 z, .int .i64 d, .int .i64 s, .int .i64 l, .int .i64 a] 23)).heap.size = w.heap.size + 1 by simp] at FF
  have l1 : w.heap.size + 1 < ((w.alloc (.cells #[.int .i64 z, .int .i64 d, .int .i64 s, .int .i64 l, .int .i64 a] 23)).alloc (.cells #[.int .i64 x.gen, .int .i64 x.ep, .int .i64 x.pos, .int .i64 x.seq, .int .i64 x.last, .string x.lab, .slice x.HA x.hs.length x.hc] 26)).heap.size := by simp
  clear hx hh ho hg t1 t2 t3
  go_enter Tryd.func3, Tryd.ntmps3
  go_upto_region 1 with fail
  generalize (w.alloc (.cells #[.int .i64 z, .int .i64 d, .int .i64 s, .int .i64 l, .int .i64 a] 23)).alloc (.cells #[.int .i64 x.gen, .int .i64 x.ep, .int .i64 x.pos, .int .i64 x.seq, .int .i64 x.last, .string x.lab, .slice x.HA x.hs.length x.hc] 26) = w0 at *
  obtain ⟨c0, c1, c2, c3, c4, c5, c6⟩ := id FF
  obtain ⟨g0, g1, g2, g3, g4⟩ := id GG
  go_wp2_with (first
    | (go_at_call 5; (with_reducible refine (cH _ hb0).mono ?_); rintro e wq ⟨rfl, hbq⟩; replace FF := FF.keep hbq (by omega); replace GG := GG.keep hbq (by omega); replace l1 := Nat.lt_of_lt_of_le l1 hbq.size; clear c0 c1 c2 c3 c4 c5 c6 g0 g1 g2 g3 g4; obtain ⟨c0, c1, c2, c3, c4, c5, c6⟩ := id FF; obtain ⟨g0, g1, g2, g3, g4⟩ := id GG; replace hb0 := bt hb0 hbq; clear hbq)
    | (go_at_call 6; (with_reducible refine (cG _).mono ?_); rintro e wq ⟨rfl, hbq⟩; replace FF := FF.keep hbq (by omega); replace GG := GG.keep hbq (by omega); replace l1 := Nat.lt_of_lt_of_le l1 hbq.size; clear c0 c1 c2 c3 c4 c5 c6 g0 g1 g2 g3 g4; obtain ⟨c0, c1, c2, c3, c4, c5, c6⟩ := id FF; obtain ⟨g0, g1, g2, g3, g4⟩ := id GG; replace hb0 := bt hb0 hbq; clear hbq)
    | (go_at_call 7; (with_reducible refine (cR _ hb0).mono ?_); rintro e wq ⟨rfl, hbq⟩; replace FF := FF.keep hbq (by omega); replace GG := GG.keep hbq (by omega); replace l1 := Nat.lt_of_lt_of_le l1 hbq.size; clear c0 c1 c2 c3 c4 c5 c6 g0 g1 g2 g3 g4; obtain ⟨c0, c1, c2, c3, c4, c5, c6⟩ := id FF; obtain ⟨g0, g1, g2, g3, g4⟩ := id GG; replace hb0 := bt hb0 hbq; clear hbq)
    | fail)
  go_ret
  exact ⟨rfl, hb0⟩
set_option maxRecDepth 100000 in
set_option maxHeartbeats 8000000 in
theorem elder_main (c : Bool) (SQ EP : Nat) (z d s l a : Int) (x : AV) (q0 e0 : Int) (w : World) (hc : Cpr w) (hk : ∀ W, Below w.heap.size w W → Calls Tryd.prog 11 #[] W fun e w' => e = .returned (.bool true) ∧ Below W.heap.size W w') (hx : x.In w w.heap.size) (hh : ¬ HeavyA x.d) (ho : Ok z d s l a) (hg : anc.Good z d s l x.d) (hq1 : (SQ : Int) < 1000000) (hq2 : (IntKind.u64.wrap q0).tmod 1000000 = (SQ : Int)) (he1 : (EP : Int) < 1000000) (he2 : (IntKind.u64.wrap e0).tmod 1000000 = (EP : Int)) (hcc : c = true ↔ (EP : Int) = x.ep ∨ (EP : Int) < x.ep ∧ (SQ : Int) ≤ x.last) :
    Calls Tryd.prog 3 #[.agg #[.int .i64 z, .int .i64 d, .int .i64 s, .int .i64 l, .int .i64 a], .agg #[.int .i64 x.gen, .int .i64 x.ep, .int .i64 x.pos, .int .i64 x.seq, .int .i64 x.last, .string x.lab, .slice x.HA x.hs.length x.hc], .int .i64 q0, .int .i64 e0] w fun e w' => e = .returned (.bool true) ∧ Below w.heap.size w w' := by
  have cH := fun W (hW : Below w.heap.size w W) => heavy_any false x W (hx.next hW) (iff_of_false Bool.false_ne_true hh)
  have cG := fun W => rgeo_at true z d s l a W (iff_of_true rfl ho)
  obtain ⟨t1, t2, t3⟩ := light hh
  have cR := fun W (hW : Below w.heap.size w W) => right_p z d s l a true x W ho (hx.next hW) (by omega) (fun r hr => by have := t3 r hr; omega) (by omega) (iff_of_true rfl hg)
  have HC := Lib.hid hc
  have HK := Lib.hid hk
  have HO := Lib.hid ho
  have HX := Lib.hid hx
  have HG := Lib.hid hg
  have HCC := Lib.hid hcc
  have hl : 14 ≤ l ∧ l ≤ 30 := ho.2.2.2.1
  have hON : OneR (RcR.d ⟨2, SQ, EP, 1, 2, ⟨0, 0, none, 0, []⟩⟩) x.ep x.last SQ 1 2 l ↔ ((EP : Int) = x.ep ∨ (EP : Int) < x.ep ∧ (SQ : Int) ≤ x.last) := by
    constructor
    · rintro ⟨-, -, -, -, -, h⟩
      have h : (EP : Int) = x.ep ∨ (SQ : Int) ≤ x.last ∧ (EP : Int) ≤ x.ep := h
      omega
    · intro h
      refine ⟨by show (2 : Int) ≠ 0; decide, rfl, rfl, fun _ => rfl, fun h => absurd h (by decide), ?_⟩
      show (EP : Int) = x.ep ∨ (SQ : Int) ≤ x.last ∧ (EP : Int) ≤ x.ep
      omega
  have HON := Lib.hid (hcc.trans hON.symm)
  have HOK := Lib.hid (show RecOk z d (RcR.d ⟨2, SQ, EP, 1, 2, ⟨0, 0, none, 0, []⟩⟩) from .inr (.inl ⟨⟨by show (0 : Int) ≤ SQ ∧ (SQ : Int) ≤ 4294967295; omega, by show (0 : Int) ≤ EP ∧ (EP : Int) ≤ 4294967295; omega, by show (2 : Int) ≤ 2 ∧ (2 : Int) ≤ 30; decide⟩, rfl, rfl, rfl, rfl, rfl⟩))
  have v1 : IntKind.i64.wrap (SQ : Int) = (SQ : Int) := IntWalk.i64_in _ (by omega)
  have v2 : IntKind.i64.wrap (EP : Int) = (EP : Int) := IntWalk.i64_in _ (by omega)
  have HIS := Lib.hid (show ∀ W, Below w.heap.size w W → Calls Tryd.prog 8 #[.agg #[.int .i64 2, .int .i64 (SQ : Int), .int .i64 (EP : Int), .int .i64 1, .int .i64 2, .int .i64 0, .int .i64 0, .slice none 0 0], .agg #[.int .i64 x.gen, .int .i64 x.ep, .int .i64 x.pos, .int .i64 x.seq, .int .i64 x.last, .string x.lab, .slice x.HA x.hs.length x.hc], .int .i64 (SQ : Int), .int .i64 1, .int .i64 2, .int .i64 l] W fun e w' => e = .returned (.bool c) ∧ Below W.heap.size W w' from fun W hW => HC.out.is c ⟨2, SQ, EP, 1, 2, ⟨0, 0, none, 0, []⟩⟩ 0 x SQ 1 2 l W hW (fun _ q _ => absurd q (by decide)) HON.out)
  obtain ⟨E0, hE0⟩ : ∃ E, E = enc (cellN l a 0 0) (SQ : Int).toNat (encR (RcR.d ⟨2, SQ, EP, 1, 2, ⟨0, 0, none, 0, []⟩⟩)) := ⟨_, rfl⟩
  obtain ⟨E1, hE1⟩ : ∃ E, E = enc (cellN l a 1 0) (SQ : Int).toNat (encR (RcR.d ⟨2, SQ, EP, 1, 2, ⟨0, 0, none, 0, []⟩⟩)) := ⟨_, rfl⟩
  have HE0 := Lib.hid (show ∀ W, Below w.heap.size w W → Calls Tryd.prog 10 #[.agg #[.int .i64 z, .int .i64 d, .int .i64 s, .int .i64 l, .int .i64 a], .agg #[.int .i64 2, .int .i64 (SQ : Int), .int .i64 (EP : Int), .int .i64 1, .int .i64 2, .int .i64 0, .int .i64 0, .slice none 0 0], .int .i64 0, .int .i64 0] W fun e w' => CellA 22 E0 e w' ∧ Below W.heap.size W w' from fun W _ => by
    rw [hE0]
    exact celll_c z d s l a 0 0 ⟨2, SQ, EP, 1, 2, ⟨0, 0, none, 0, []⟩⟩ 0 11 W HO.out ⟨Sl.nil _ _ _, Nat.le_refl _, Nat.zero_le _⟩ rfl HOK.out ⟨.inl rfl, by omega⟩ rfl)
  have HE1 := Lib.hid (show ∀ W, Below w.heap.size w W → Calls Tryd.prog 10 #[.agg #[.int .i64 z, .int .i64 d, .int .i64 s, .int .i64 l, .int .i64 a], .agg #[.int .i64 2, .int .i64 (SQ : Int), .int .i64 (EP : Int), .int .i64 1, .int .i64 2, .int .i64 0, .int .i64 0, .slice none 0 0], .int .i64 1, .int .i64 0] W fun e w' => CellA 22 E1 e w' ∧ Below W.heap.size W w' from fun W _ => by
    rw [hE1]
    exact celll_c z d s l a 1 0 ⟨2, SQ, EP, 1, 2, ⟨0, 0, none, 0, []⟩⟩ 0 11 W HO.out ⟨Sl.nil _ _ _, Nat.le_refl _, Nat.zero_le _⟩ rfl HOK.out ⟨.inr rfl, by omega⟩ rfl)
  obtain ⟨HV, hHV⟩ : ∃ HV : Int, HV = if c = true then 1 else 2 := ⟨_, rfl⟩
  have HHV := Lib.hid hHV
  have HLK := Lib.hid (show ∀ (G H : Gt) (W : World), Below w.heap.size w W → G.In W W.heap.size → H.In W W.heap.size → G.e = 0 ∧ G.l = E0 → H.e = 0 ∧ H.l = E1 → Calls Tryd.prog 9 #[.agg #[.int .i64 z, .int .i64 d, .int .i64 s, .int .i64 l, .int .i64 a], .agg #[.int .i64 x.gen, .int .i64 x.ep, .int .i64 x.pos, .int .i64 x.seq, .int .i64 x.last, .string x.lab, .slice x.HA x.hs.length x.hc], .agg #[.int .i64 G.e, .slice G.A 22 G.c], .agg #[.int .i64 H.e, .slice H.A 22 H.c], .int .i64 0, .int .i64 (SQ : Int), .int .i64 1, .int .i64 2, .int .i64 l] W fun e w' => (∃ (R : Rcd) (X : Option Addr) (xc : Nat) (V : Option Addr) (vc : Nat), e = .returned (.tuple #[.agg #[.int .i64 R.kd, .int .i64 R.sq, .int .i64 R.ep, .int .i64 R.ps, .int .i64 R.nm, .int .i64 R.z, .int .i64 R.wh, .slice X R.l.length xc], .slice V 0 vc, .int .i64 HV, .int .i64 0])) ∧ Below W.heap.size W w' from fun G H W hW gi hi hG hH => by
    have s0 := say_made (addr := cellN l a 0 0) HOK.out HO.out.1.2 HO.out.2.1 (cell_lt HO.out ⟨.inl rfl, by omega⟩)
    have s1 := say_made (addr := cellN l a 1 0) HOK.out HO.out.1.2 HO.out.2.1 (cell_lt HO.out ⟨.inr rfl, by omega⟩)
    have r0 : sayR G.l = RcR.d ⟨2, SQ, EP, 1, 2, ⟨0, 0, none, 0, []⟩⟩ := by rw [hG.2, hE0]; exact s0.2
    have r1 : sayR H.l = RcR.d ⟨2, SQ, EP, 1, 2, ⟨0, 0, none, 0, []⟩⟩ := by rw [hH.2, hE1]; exact s1.2
    have h9 := HC.out.look true true c c z d s l a x G H 22 22 0 SQ 1 2 l W hW HO.out (HX.out.next hW) (by omega) HG.out (by omega) gi (by rw [hG.2, hE0, sel.enc_length]; rfl) hi (by rw [hH.2, hE1, sel.enc_length]; rfl) (iff_of_true rfl (by rw [hG.1, hG.2, hE0]; exact s0.1)) (iff_of_true rfl (by rw [hH.1, hH.2, hE1]; exact s1.1)) (by rw [r0]; exact HON.out.trans (and_iff_right rfl).symm) (by rw [r1]; exact HON.out.trans (and_iff_right rfl).symm)
    refine h9.mono ?_
    rintro e w' ⟨⟨X, xc, V, vc, rfl, -, -⟩, hb⟩
    refine ⟨⟨lookR c c (sayR G.l) (sayR H.l), X, xc, V, vc, ?_⟩, hb⟩
    rw [hHV]
    cases c <;> rfl)
  unfold AV.v at *
  have GG := (g5_new w z d s l a).keep (bl (w.alloc (.cells #[.int .i64 z, .int .i64 d, .int .i64 s, .int .i64 l, .int .i64 a] 23)) (.cells #[.int .i64 x.gen, .int .i64 x.ep, .int .i64 x.pos, .int .i64 x.seq, .int .i64 x.last, .string x.lab, .slice x.HA x.hs.length x.hc] 26)) (by simp)
  have FF := ac_new (w.alloc (.cells #[.int .i64 z, .int .i64 d, .int .i64 s, .int .i64 l, .int .i64 a] 23)) x
  have hb0 := kal (bl w (.cells #[.int .i64 z, .int .i64 d, .int .i64 s, .int .i64 l, .int .i64 a] 23)) (.cells #[.int .i64 x.gen, .int .i64 x.ep, .int .i64 x.pos, .int .i64 x.seq, .int .i64 x.last, .string x.lab, .slice x.HA x.hs.length x.hc] 26)
  rw [show (w.alloc (.cells #[.int .i64 z, .int .i64 d, .int .i64 s, .int .i64 l, .int .i64 a] 23)).heap.size = w.heap.size + 1 by simp] at FF
  have l1 : w.heap.size + 1 < ((w.alloc (.cells #[.int .i64 z, .int .i64 d, .int .i64 s, .int .i64 l, .int .i64 a] 23)).alloc (.cells #[.int .i64 x.gen, .int .i64 x.ep, .int .i64 x.pos, .int .i64 x.seq, .int .i64 x.last, .string x.lab, .slice x.HA x.hs.length x.hc] 26)).heap.size := by simp
  clear hx hh ho hg t1 t3 hc hk hcc hON hE0 hE1 hHV
  go_enter Tryd.func3, Tryd.ntmps3
  go_upto_region 1 with fail
  generalize (w.alloc (.cells #[.int .i64 z, .int .i64 d, .int .i64 s, .int .i64 l, .int .i64 a] 23)).alloc (.cells #[.int .i64 x.gen, .int .i64 x.ep, .int .i64 x.pos, .int .i64 x.seq, .int .i64 x.last, .string x.lab, .slice x.HA x.hs.length x.hc] 26) = w0 at *
  obtain ⟨c0, c1, c2, c3, c4, c5, c6⟩ := id FF
  obtain ⟨g0, g1, g2, g3, g4⟩ := id GG
  go_upto_region 5 with (first
    | (go_at_call 5; (with_reducible refine (cH _ hb0).mono ?_); rintro e wq ⟨rfl, hbq⟩; replace FF := FF.keep hbq (by omega); replace GG := GG.keep hbq (by omega); replace l1 := Nat.lt_of_lt_of_le l1 hbq.size; clear c0 c1 c2 c3 c4 c5 c6 g0 g1 g2 g3 g4; obtain ⟨c0, c1, c2, c3, c4, c5, c6⟩ := id FF; obtain ⟨g0, g1, g2, g3, g4⟩ := id GG; replace hb0 := bt hb0 hbq; clear hbq)
    | (go_at_call 6; (with_reducible refine (cG _).mono ?_); rintro e wq ⟨rfl, hbq⟩; replace FF := FF.keep hbq (by omega); replace GG := GG.keep hbq (by omega); replace l1 := Nat.lt_of_lt_of_le l1 hbq.size; clear c0 c1 c2 c3 c4 c5 c6 g0 g1 g2 g3 g4; obtain ⟨c0, c1, c2, c3, c4, c5, c6⟩ := id FF; obtain ⟨g0, g1, g2, g3, g4⟩ := id GG; replace hb0 := bt hb0 hbq; clear hbq)
    | (go_at_call 7; (with_reducible refine (cR _ hb0).mono ?_); rintro e wq ⟨rfl, hbq⟩; replace FF := FF.keep hbq (by omega); replace GG := GG.keep hbq (by omega); replace l1 := Nat.lt_of_lt_of_le l1 hbq.size; clear c0 c1 c2 c3 c4 c5 c6 g0 g1 g2 g3 g4; obtain ⟨c0, c1, c2, c3, c4, c5, c6⟩ := id FF; obtain ⟨g0, g1, g2, g3, g4⟩ := id GG; replace hb0 := bt hb0 hbq; clear hbq)
    | fail)
  clear cH cG cR
  have RR := c8_new wq (.int .i64 2) (.int .i64 (SQ : Int)) (.int .i64 (EP : Int)) (.int .i64 1) (.int .i64 2) (.int .i64 0) (.int .i64 0) (.slice none 0 0) 35
  have lr : wq.heap.size < (wq.alloc (.cells #[.int .i64 2, .int .i64 (SQ : Int), .int .i64 (EP : Int), .int .i64 1, .int .i64 2, .int .i64 0, .int .i64 0, .slice none 0 0] 35)).heap.size := by simp
  have hbr := bl wq (.cells #[.int .i64 2, .int .i64 (SQ : Int), .int .i64 (EP : Int), .int .i64 1, .int .i64 2, .int .i64 0, .int .i64 0, .slice none 0 0] 35)
  have G7 := GG.keep hbr (by omega)
  have F7 := FF.keep hbr (by omega)
  have hb7 := bt hb0 hbr
  have l7 := Nat.lt_of_lt_of_le l1 hbr.size
  clear c0 c1 c2 c3 c4 c5 c6 g0 g1 g2 g3 g4 GG FF hb0 l1 hbr
  generalize wq.heap.size = gr at *
  generalize wq.alloc (.cells #[.int .i64 2, .int .i64 (SQ : Int), .int .i64 (EP : Int), .int .i64 1, .int .i64 2, .int .i64 0, .int .i64 0, .slice none 0 0] 35) = w6 at *
  obtain ⟨c0, c1, c2, c3, c4, c5, c6⟩ := id F7
  obtain ⟨g0, g1, g2, g3, g4⟩ := id G7
  obtain ⟨r0, r1, r2, r3, r4, r5, r6, r7⟩ := id RR
  go_upto_region 6 with (go_at_call 8; (with_reducible refine (HIS.out _ hb7).mono ?_); rintro e w7 ⟨rfl, hbs⟩)
  have G8 := G7.keep hbs (by omega)
  have F8 := F7.keep hbs (by omega)
  have R8 := RR.keep hbs lr
  have hb8 := bt hb7 hbs
  have lr8 := Nat.lt_of_lt_of_le lr hbs.size
  have l8 := Nat.lt_of_lt_of_le l7 hbs.size
  clear c0 c1 c2 c3 c4 c5 c6 g0 g1 g2 g3 g4 r0 r1 r2 r3 r4 r5 r6 r7 G7 F7 RR hb7 hbs lr l7
  obtain ⟨c0, c1, c2, c3, c4, c5, c6⟩ := id F8
  go_cut [11] from 108 (fun v wc => v = .bool c ∧ wc = w7)
  case first =>
    clear HIS HE0 HE1 HLK HC HK HO HX HG HOK HON
    by_cases k1 : (EP : Int) = x.ep
    · have H : Hid (c = true) := Lib.hid (HCC.out.2 (.inl k1))
      have q1 : ((EP : Int) == x.ep) = true := beq_iff_eq.2 k1
      clear k1
      go_wp2_with fail
      go_meet
      exact ⟨by rw [H.out], rfl⟩
    have q1 : ((EP : Int) == x.ep) = false := beq_eq_false_iff_ne.2 k1
    by_cases k2 : (EP : Int) < x.ep
    · by_cases k3 : (SQ : Int) ≤ x.last
      · have H : Hid (c = true) := Lib.hid (HCC.out.2 (.inr ⟨k2, k3⟩))
        go_wp2_with fail
        go_meet
        exact ⟨by rw [H.out], rfl⟩
      · have q3 : decide ((SQ : Int) ≤ x.last) = false := decide_eq_false k3
        have H : Hid (c = false) := Lib.hid (bool_noE HCC.out fun h => h.elim k1 fun h => k3 h.2)
        go_wp2_with fail
        go_meet
        exact ⟨by rw [H.out], rfl⟩
    · have q2 : decide ((EP : Int) < x.ep) = false := decide_eq_false k2
      have H : Hid (c = false) := Lib.hid (bool_noE HCC.out fun h => h.elim k1 fun h => k2 h.1)
      go_wp2_with fail
      go_meet
      exact ⟨by rw [H.out], rfl⟩
  case rest =>
    obtain ⟨rfl, hwc⟩ := hcut
    have hwc2 := hwc.symm
    clear hwc
    subst hwc2
    obtain ⟨g0, g1, g2, g3, g4⟩ := id G8
    obtain ⟨r0, r1, r2, r3, r4, r5, r6, r7⟩ := id R8
    go_upto_region 7 with fail
    have HF := Lib.hid (show ∀ W, Below w7.heap.size w7 W → (W.cell? ⟨w.heap.size, 0, none⟩ = some (.int .i64 z) ∧ W.cell? ⟨w.heap.size, 1, none⟩ = some (.int .i64 d) ∧ W.cell? ⟨w.heap.size, 2, none⟩ = some (.int .i64 s) ∧ W.cell? ⟨w.heap.size, 3, none⟩ = some (.int .i64 l) ∧ W.cell? ⟨w.heap.size, 4, none⟩ = some (.int .i64 a) ∧ W.cell? ⟨w.heap.size + 1, 0, none⟩ = some (.int .i64 x.gen) ∧ W.cell? ⟨w.heap.size + 1, 1, none⟩ = some (.int .i64 x.ep) ∧ W.cell? ⟨w.heap.size + 1, 2, none⟩ = some (.int .i64 x.pos) ∧ W.cell? ⟨w.heap.size + 1, 3, none⟩ = some (.int .i64 x.seq) ∧ W.cell? ⟨w.heap.size + 1, 4, none⟩ = some (.int .i64 x.last) ∧ W.cell? ⟨w.heap.size + 1, 5, none⟩ = some (.string x.lab) ∧ W.cell? ⟨w.heap.size + 1, 6, none⟩ = some (.slice x.HA x.hs.length x.hc) ∧ W.cell? ⟨gr, 0, none⟩ = some (.int .i64 2) ∧ W.cell? ⟨gr, 1, none⟩ = some (.int .i64 (SQ : Int)) ∧ W.cell? ⟨gr, 2, none⟩ = some (.int .i64 (EP : Int)) ∧ W.cell? ⟨gr, 3, none⟩ = some (.int .i64 1) ∧ W.cell? ⟨gr, 4, none⟩ = some (.int .i64 2) ∧ W.cell? ⟨gr, 5, none⟩ = some (.int .i64 0) ∧ W.cell? ⟨gr, 6, none⟩ = some (.int .i64 0) ∧ W.cell? ⟨gr, 7, none⟩ = some (.slice none 0 0)) ∧ Below w7.heap.size w7 W from fun W h => by
      obtain ⟨g0, g1, g2, g3, g4⟩ := G8.keep h (by omega)
      obtain ⟨x0, x1, x2, x3, x4, x5, x6⟩ := F8.keep h (by omega)
      obtain ⟨r0, r1, r2, r3, r4, r5, r6, r7⟩ := R8.keep h lr8
      exact ⟨⟨g0, g1, g2, g3, g4, x0, x1, x2, x3, x4, x5, x6, r0, r1, r2, r3, r4, r5, r6, r7⟩, h⟩)
    have hd0 := below_dr (Below.refl w7.heap.size w7)
    have hd1 := below_dr (bl w7 (.cells #[.int .i64 0, .int .i64 0, .int .i64 0, .int .i64 0, .int .i64 0, .int .i64 0, .int .i64 0, .slice none 0 0] 35))
    go_cut [13, 14, 15] from 108 (fun wv hv ev wc => ∃ (V : Option Addr) (vc : Nat), wv = .slice V 0 vc ∧ hv = .int .i64 HV ∧ ev = .int .i64 0 ∧ Below w7.heap.size w7 wc)
    case first =>
      clear HIS HC HK HO HX HG HOK HON HCC
      go_region_held3 (fun W => (W.cell? ⟨w.heap.size, 0, none⟩ = some (.int .i64 z) ∧ W.cell? ⟨w.heap.size, 1, none⟩ = some (.int .i64 d) ∧ W.cell? ⟨w.heap.size, 2, none⟩ = some (.int .i64 s) ∧ W.cell? ⟨w.heap.size, 3, none⟩ = some (.int .i64 l) ∧ W.cell? ⟨w.heap.size, 4, none⟩ = some (.int .i64 a) ∧ W.cell? ⟨w.heap.size + 1, 0, none⟩ = some (.int .i64 x.gen) ∧ W.cell? ⟨w.heap.size + 1, 1, none⟩ = some (.int .i64 x.ep) ∧ W.cell? ⟨w.heap.size + 1, 2, none⟩ = some (.int .i64 x.pos) ∧ W.cell? ⟨w.heap.size + 1, 3, none⟩ = some (.int .i64 x.seq) ∧ W.cell? ⟨w.heap.size + 1, 4, none⟩ = some (.int .i64 x.last) ∧ W.cell? ⟨w.heap.size + 1, 5, none⟩ = some (.string x.lab) ∧ W.cell? ⟨w.heap.size + 1, 6, none⟩ = some (.slice x.HA x.hs.length x.hc) ∧ W.cell? ⟨gr, 0, none⟩ = some (.int .i64 2) ∧ W.cell? ⟨gr, 1, none⟩ = some (.int .i64 (SQ : Int)) ∧ W.cell? ⟨gr, 2, none⟩ = some (.int .i64 (EP : Int)) ∧ W.cell? ⟨gr, 3, none⟩ = some (.int .i64 1) ∧ W.cell? ⟨gr, 4, none⟩ = some (.int .i64 2) ∧ W.cell? ⟨gr, 5, none⟩ = some (.int .i64 0) ∧ W.cell? ⟨gr, 6, none⟩ = some (.int .i64 0) ∧ W.cell? ⟨gr, 7, none⟩ = some (.slice none 0 0)) ∧ Below w7.heap.size w7 W)
        ((refine HF.out _ ?_; first
          | with_reducible exact hbL
          | with_reducible exact kal hbL _
          | with_reducible exact hbB
          | with_reducible exact kal hbB _
          | with_reducible exact hbA
          | with_reducible exact kal hbA _
          | with_reducible exact hd0
          | with_reducible exact hd1
          | with_reducible exact kal hd0 _
          | with_reducible exact below_8 hbL (Nat.le_refl _) _ _ _ _ _ _ _ _
          | with_reducible exact below_8 hbL hbA.size _ _ _ _ _ _ _ _
          | with_reducible exact below_8 hbL hbB.size _ _ _ _ _ _ _ _
          | fail))
        (first
          | (go_at_call 10; (with_reducible refine (HE0.out w7.drew (bt hb8 hd0)).mono ?_); rintro e wA ⟨⟨G, rfl, GE, GL, -, GI⟩, hbq⟩; have hbA : Below w7.heap.size w7 wA := bt hd0 hbq; have HGT := Lib.hid (And.intro GE GL); clear GE GL hbq)
          | (go_at_call 10; (with_reducible refine (HE0.out (w7.alloc (.cells #[.int .i64 0, .int .i64 0, .int .i64 0, .int .i64 0, .int .i64 0, .int .i64 0, .int .i64 0, .slice none 0 0] 35)).drew (bt hb8 hd1)).mono ?_); rintro e wA ⟨⟨G, rfl, GE, GL, -, GI⟩, hbq⟩; have hbA : Below w7.heap.size w7 wA := bt hd1 hbq; have PY : wA.heap[w7.heap.size]? = some (.cells #[.int .i64 0, .int .i64 0, .int .i64 0, .int .i64 0, .int .i64 0, .int .i64 0, .int .i64 0, .slice none 0 0] 35) := blk_far hbq (by simp) (heap_alloc_new w7 (.cells #[.int .i64 0, .int .i64 0, .int .i64 0, .int .i64 0, .int .i64 0, .int .i64 0, .int .i64 0, .slice none 0 0] 35)); have HGT := Lib.hid (And.intro GE GL); clear GE GL hbq)
          | (go_at_call 10; (with_reducible refine (HE1.out wA (bt hb8 hbA)).mono ?_); rintro e wB ⟨⟨H, rfl, HE, HL, -, HI⟩, hbq⟩; have hbB := bt hbA hbq; have GI2 := GI.next hbq; (try (replace PY : wB.heap[w7.heap.size]? = some (.cells #[.int .i64 0, .int .i64 0, .int .i64 0, .int .i64 0, .int .i64 0, .int .i64 0, .int .i64 0, .slice none 0 0] 35) := blk_far hbq (Array.getElem?_eq_some_iff.1 PY).1 PY)); have HHT := Lib.hid (And.intro HE HL); clear HE HL hbq)
          | (go_at_call 10; (with_reducible refine (HE1.out (wA.alloc (.cells #[.int .i64 0, .int .i64 0, .int .i64 0, .int .i64 0, .int .i64 0, .int .i64 0, .int .i64 0, .slice none 0 0] 35)) (bt hb8 (kal hbA _))).mono ?_); rintro e wB ⟨⟨H, rfl, HE, HL, -, HI⟩, hbq⟩; have hbB := bt (kal hbA (.cells #[.int .i64 0, .int .i64 0, .int .i64 0, .int .i64 0, .int .i64 0, .int .i64 0, .int .i64 0, .slice none 0 0] 35)) hbq; have GI2 := (GI.next (bl wA (.cells #[.int .i64 0, .int .i64 0, .int .i64 0, .int .i64 0, .int .i64 0, .int .i64 0, .int .i64 0, .slice none 0 0] 35))).next hbq; have PY : wB.heap[wA.heap.size]? = some (.cells #[.int .i64 0, .int .i64 0, .int .i64 0, .int .i64 0, .int .i64 0, .int .i64 0, .int .i64 0, .slice none 0 0] 35) := blk_far hbq (by simp) (heap_alloc_new wA (.cells #[.int .i64 0, .int .i64 0, .int .i64 0, .int .i64 0, .int .i64 0, .int .i64 0, .int .i64 0, .slice none 0 0] 35)); have HHT := Lib.hid (And.intro HE HL); clear HE HL hbq)
          | (go_at_call 9; (with_reducible refine (HLK.out G H wB (bt hb8 hbB) GI2 HI HGT.out HHT.out).mono ?_); rintro e wD ⟨⟨R, X, xc, V, vc, rfl⟩, hbq⟩; have hbL := bt hbB hbq; (try (replace PY := blk_far hbq (Array.getElem?_eq_some_iff.1 PY).1 PY; obtain ⟨⟨z0, z1, z2, z3, z4, z5, z6, z7⟩, -⟩ := f8_rowW PY; obtain ⟨y0, y1, y2, y3, y4, y5, y6, y7⟩ := f8_all (f8_rowW PY))); clear hbq)
          | (go_at_call 9; (with_reducible refine (HLK.out G H (wB.alloc (.cells #[.int .i64 0, .int .i64 0, .int .i64 0, .int .i64 0, .int .i64 0, .int .i64 0, .int .i64 0, .slice none 0 0] 35)) (bt hb8 (kal hbB _)) (GI2.next (bl wB _)) (HI.next (bl wB _)) HGT.out HHT.out).mono ?_); rintro e wD ⟨⟨R, X, xc, V, vc, rfl⟩, hbq⟩; have hbL := bt (kal hbB (.cells #[.int .i64 0, .int .i64 0, .int .i64 0, .int .i64 0, .int .i64 0, .int .i64 0, .int .i64 0, .slice none 0 0] 35)) hbq; have PY : wD.heap[wB.heap.size]? = some (.cells #[.int .i64 0, .int .i64 0, .int .i64 0, .int .i64 0, .int .i64 0, .int .i64 0, .int .i64 0, .slice none 0 0] 35) := blk_far hbq (by simp) (heap_alloc_new wB (.cells #[.int .i64 0, .int .i64 0, .int .i64 0, .int .i64 0, .int .i64 0, .int .i64 0, .int .i64 0, .slice none 0 0] 35)); (obtain ⟨⟨z0, z1, z2, z3, z4, z5, z6, z7⟩, -⟩ := f8_rowW PY); (obtain ⟨y0, y1, y2, y3, y4, y5, y6, y7⟩ := f8_all (f8_rowW PY)); clear hbq)
          | fail)
      all_goals (go_wp2_with fail; go_meet)
      · exact ⟨V, vc, rfl, rfl, rfl, kal hbL _⟩
      · exact ⟨V, vc, rfl, rfl, rfl, below_8 hbL hbB.size _ _ _ _ _ _ _ _⟩
      · exact ⟨V, vc, rfl, rfl, rfl, below_8 hbL hbA.size _ _ _ _ _ _ _ _⟩
      · exact ⟨V, vc, rfl, rfl, rfl, below_8 hbL (Nat.le_refl _) _ _ _ _ _ _ _ _⟩
    case rest =>
      obtain ⟨V, vc, rfl, rfl, rfl, hb9⟩ := hcut
      obtain ⟨w9, rfl⟩ : ∃ y, y = wc := ⟨wc, rfl⟩
      cases c
      · obtain rfl : HV = 2 := HHV.out
        go_wp2_with (go_at_call 11; (with_reducible refine (HK.out _ (bt hb8 hb9)).mono ?_); rintro e w10 ⟨rfl, hb10⟩)
        go_ret
        exact ⟨rfl, bt (bt hb8 hb9) hb10⟩
      · obtain rfl : HV = 1 := HHV.out
        go_wp2_with (go_at_call 11; (with_reducible refine (HK.out _ (bt hb8 hb9)).mono ?_); rintro e w10 ⟨rfl, hb10⟩)
        go_ret
        exact ⟨rfl, bt (bt hb8 hb9) hb10⟩
set_option maxRecDepth 100000 in
set_option maxHeartbeats 8000000 in
theorem pairelder_law (z d s l a : Int) (x : AV) (q0 e0 : Int) (w : World) (hc : Cpr w) (hk : ∀ W, Below w.heap.size w W → Calls Tryd.prog 11 #[] W fun e w' => e = .returned (.bool true) ∧ Below W.heap.size W w') (hx : x.In w w.heap.size) :
    Calls Tryd.prog 3 #[.agg #[.int .i64 z, .int .i64 d, .int .i64 s, .int .i64 l, .int .i64 a], .agg #[.int .i64 x.gen, .int .i64 x.ep, .int .i64 x.pos, .int .i64 x.seq, .int .i64 x.last, .string x.lab, .slice x.HA x.hs.length x.hc], .int .i64 q0, .int .i64 e0] w fun e w' => e = .returned (.bool true) ∧ Below w.heap.size w w' := by
  by_cases hh : HeavyA x.d
  · exact elder_heavy z d s l a x q0 e0 w hx hh
  by_cases ho : Ok z d s l a
  case neg => exact elder_geo z d s l a x q0 e0 w hx hh ho
  by_cases hg : anc.Good z d s l x.d
  case neg => exact elder_bad z d s l a x q0 e0 w hx hh ho hg
  obtain ⟨SQ, q1, q2⟩ := wrap_modE q0 1000000 (by omega)
  obtain ⟨EP, e1, e2⟩ := wrap_modE e0 1000000 (by omega)
  exact elder_main (decide ((EP : Int) = x.ep ∨ (EP : Int) < x.ep ∧ (SQ : Int) ≤ x.last)) SQ EP z d s l a x q0 e0 w hc hk hx hh ho hg q1 q2 e1 e2 (by simp)
end Go.Proofs.YtpcadoekhoediaaDoor.prr
