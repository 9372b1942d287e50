/-
  The laws' own Cell: a record's reading in its copy of a slot. Conditions: a right geometry, a right record, a slot of a copy.
  The laws' example of package pair. Conditions: 'Cpr'.
-/
import Derived.Test.YtpcadoekhoediaaGreatDoorGPp
import Derived.Test.YtpcadoekhoediaaGreatDoorRcW
import Derived.Test.YtpcadoekhoediaaGreatDoorGTa
import Derived.Test.YtpcadoekhoediaaGreatDoorAnF
import Derived.Test.YtpcadoekhoediaaGreatDoorGAu
namespace Go.Proofs.YtpcadoekhoediaaGreatDoor.prr
open Go.RowKit Go.Lib
open Go.Proofs.YtpcadoekhoediaaGreatDoor.gmt (Ok)
open Go.Proofs.YtpcadoekhoediaaGreatDoor.anc (bl kal kst ks bm ka)
open Go.Proofs.YtpcadoekhoediaaGreatDoor.tbl (G5 g5_new)
open Go.Proofs.YtpcadoekhoediaaGreatDoor.lrc (Rcd RcR C8 c8_new RecOk encR SlotOk cellN encR_length encR_short BytA rrec_cell)
open Go.Proofs.YtpcadoekhoediaaGreatDoor.sel (enc enc_length)
open Go.Proofs.YtpcadoekhoediaaGreatDoor.img (BIn)

theorem sl_2 {W : World} {B g : Nat} {X : Option Addr} {l : List UInt8} {t : TypeId} {fr : Nat × Nat} (h : Sl W B X l) (hg : W.heap[g]? = some (.cells #[.int .i64 0, .slice none 0 0] t fr)) (b0 b1 : Value) : Sl ((W.setCell ⟨g, 0, none⟩ b0).setCell ⟨g, 1, none⟩ b1) B X l := by
  intro hl
  obtain ⟨b, off, hX, hb, hc⟩ := h hl
  refine ⟨b, off, hX, hb, fun j hj => ?_⟩
  have hne : b ≠ g := fun e => by
    subst e
    have h1 := hc 0 hl
    rw [cell_of_row _ _ _ _ _ _ hg] at h1
    have h2 := Array.mem_of_getElem? h1
    simp [by8] at h2
  have hf : ∀ (W' : World) (o : Nat) (v : Value), (W'.setCell ⟨g, o, none⟩ v).cell? ⟨b, off + j, none⟩ = W'.cell? ⟨b, off + j, none⟩ := fun W' o v => World.cell?_setCell_other _ _ _ _ (by simp only [ne_eq, Addr.mk.injEq, not_and]; intro e; exact absurd (by first | exact e | exact e.symm) hne)
  rw [hf, hf]
  exact hc j hj
theorem got_set {W : World} {g : Nat} {t : TypeId} {a0 a1 : Value} (hg : W.heap[g]? = some (.cells #[a0, a1] t)) (b0 b1 : Value) : ((W.setCell ⟨g, 0, none⟩ b0).setCell ⟨g, 1, none⟩ b1).cell? ⟨g, 0, none⟩ = some b0 ∧ ((W.setCell ⟨g, 0, none⟩ b0).setCell ⟨g, 1, none⟩ b1).cell? ⟨g, 1, none⟩ = some b1 := by
  have c0 : W.cell? ⟨g, 0, none⟩ = some a0 := by rw [cell_of_row _ _ _ _ _ _ hg]; rfl
  have c1 : W.cell? ⟨g, 1, none⟩ = some a1 := by rw [cell_of_row _ _ _ _ _ _ hg]; rfl
  constructor
  · rw [World.cell?_setCell_other _ _ _ _ (by simp)]
    exact World.cell?_setCell_same _ _ _ c0
  · have e : (W.setCell ⟨g, 0, none⟩ b0).cell? ⟨g, 1, none⟩ = some a1 := by
      rw [World.cell?_setCell_other _ _ _ _ (by simp)]
      exact c1
    exact World.cell?_setCell_same _ _ _ e
/-- A reading that was made. -/
def CellA (k : Nat) (b : List UInt8) (e : Ending) (w' : World) : Prop := ∃ G : Gt, e = .returned (.agg #[.int .i64 G.e, .slice G.A k G.c]) ∧ G.e = 0 ∧ G.l = b ∧ b.length = k ∧ G.In w' w'.heap.size
set_option maxRecDepth 100000 in
set_option maxHeartbeats 8000000 in
theorem celll_c (z d s l a cp sl : Int) (r : RcR) (n q : Nat) (w : World) (ho : Ok z d s l a) (hx : BIn w w.heap.size r.i) (hn : r.i.l.length = n) (hr : RecOk z d r.d) (hs : SlotOk l cp sl) (hq : (encR r.d).length = q) :
    Calls Tryz.prog 21 #[.agg #[.int .i64 z, .int .i64 d, .int .i64 s, .int .i64 l, .int .i64 a], .agg #[.int .i64 r.kd, .int .i64 r.sq, .int .i64 r.ep, .int .i64 r.ps, .int .i64 r.nm, .int .i64 r.i.z, .int .i64 r.i.wh, .slice r.i.A n r.i.c], .int .i64 cp, .int .i64 sl] w fun e w' => CellA (q + 11) (enc (cellN l a cp sl) r.sq.toNat (encR r.d)) e w' ∧ Below w.heap.size w w' := by
  have h59 := (encR_short hr ⟨ho.2.1.1, ho.2.1.2⟩).2
  have hle : (enc (cellN l a cp sl) r.sq.toNat (encR r.d)).length = q + 11 := by rw [enc_length, hq]
  have s1 : (w.alloc (.cells #[.int .i64 z, .int .i64 d, .int .i64 s, .int .i64 l, .int .i64 a] 23)).heap.size = w.heap.size + 1 := by simp
  have s2 : ((w.alloc (.cells #[.int .i64 z, .int .i64 d, .int .i64 s, .int .i64 l, .int .i64 a] 23)).alloc (.cells #[.int .i64 r.kd, .int .i64 r.sq, .int .i64 r.ep, .int .i64 r.ps, .int .i64 r.nm, .int .i64 r.i.z, .int .i64 r.i.wh, .slice r.i.A n r.i.c] 34)).heap.size = w.heap.size + 2 := by simp
  have GG := (g5_new w z d s l a).keep (kal (bl (w.alloc (.cells #[.int .i64 z, .int .i64 d, .int .i64 s, .int .i64 l, .int .i64 a] 23)) (.cells #[.int .i64 r.kd, .int .i64 r.sq, .int .i64 r.ep, .int .i64 r.ps, .int .i64 r.nm, .int .i64 r.i.z, .int .i64 r.i.wh, .slice r.i.A n r.i.c] 34)) (.cells #[.int .i64 0, .slice none 0 0] 30)) (by omega)
  have XX := (c8_new (w.alloc (.cells #[.int .i64 z, .int .i64 d, .int .i64 s, .int .i64 l, .int .i64 a] 23)) (.int .i64 r.kd) (.int .i64 r.sq) (.int .i64 r.ep) (.int .i64 r.ps) (.int .i64 r.nm) (.int .i64 r.i.z) (.int .i64 r.i.wh) (.slice r.i.A n r.i.c) 34).keep (bl ((w.alloc (.cells #[.int .i64 z, .int .i64 d, .int .i64 s, .int .i64 l, .int .i64 a] 23)).alloc (.cells #[.int .i64 r.kd, .int .i64 r.sq, .int .i64 r.ep, .int .i64 r.ps, .int .i64 r.nm, .int .i64 r.i.z, .int .i64 r.i.wh, .slice r.i.A n r.i.c] 34)) (.cells #[.int .i64 0, .slice none 0 0] 30)) (by omega)
  have HQ := heap_alloc_new ((w.alloc (.cells #[.int .i64 z, .int .i64 d, .int .i64 s, .int .i64 l, .int .i64 a] 23)).alloc (.cells #[.int .i64 r.kd, .int .i64 r.sq, .int .i64 r.ep, .int .i64 r.ps, .int .i64 r.nm, .int .i64 r.i.z, .int .i64 r.i.wh, .slice r.i.A n r.i.c] 34)) (.cells #[.int .i64 0, .slice none 0 0] 30)
  rw [s1] at XX
  rw [s2] at HQ
  have hw := kal (kal (bl w (.cells #[.int .i64 z, .int .i64 d, .int .i64 s, .int .i64 l, .int .i64 a] 23)) (.cells #[.int .i64 r.kd, .int .i64 r.sq, .int .i64 r.ep, .int .i64 r.ps, .int .i64 r.nm, .int .i64 r.i.z, .int .i64 r.i.wh, .slice r.i.A n r.i.c] 34)) (.cells #[.int .i64 0, .slice none 0 0] 30)
  have l2 : w.heap.size + 2 < (((w.alloc (.cells #[.int .i64 z, .int .i64 d, .int .i64 s, .int .i64 l, .int .i64 a] 23)).alloc (.cells #[.int .i64 r.kd, .int .i64 r.sq, .int .i64 r.ep, .int .i64 r.ps, .int .i64 r.nm, .int .i64 r.i.z, .int .i64 r.i.wh, .slice r.i.A n r.i.c] 34)).alloc (.cells #[.int .i64 0, .slice none 0 0] 30)).heap.size := by simp
  have HC := Lib.hid (show ∀ W, Below w.heap.size w W → Calls Tryz.prog 40 #[.agg #[.int .i64 z, .int .i64 d, .int .i64 s, .int .i64 l, .int .i64 a], .agg #[.int .i64 r.kd, .int .i64 r.sq, .int .i64 r.ep, .int .i64 r.ps, .int .i64 r.nm, .int .i64 r.i.z, .int .i64 r.i.wh, .slice r.i.A n r.i.c], .int .i64 cp, .int .i64 sl] W fun e w' => BytA (q + 11) (enc (cellN l a cp sl) r.sq.toNat (encR r.d)) e w' ∧ Below W.heap.size W w' from fun W hW => rrec_cell z d s l a cp sl r n q W ho (hx.next hW) hn hr hs hq)
  clear s1 s2 hx hn hr hs ho
  generalize enc (cellN l a cp sl) r.sq.toNat (encR r.d) = E at *
  have HLE := Lib.hid hle
  have hq59 : q ≤ 59 := by omega
  clear hle hq h59
  go_enter Tryz.func21, Tryz.ntmps21
  go_upto_region 1 with fail
  generalize ((w.alloc (.cells #[.int .i64 z, .int .i64 d, .int .i64 s, .int .i64 l, .int .i64 a] 23)).alloc (.cells #[.int .i64 r.kd, .int .i64 r.sq, .int .i64 r.ep, .int .i64 r.ps, .int .i64 r.nm, .int .i64 r.i.z, .int .i64 r.i.wh, .slice r.i.A n r.i.c] 34)).alloc (.cells #[.int .i64 0, .slice none 0 0] 30) = w0 at *
  obtain ⟨g0, g1, g2, g3, g4⟩ := id GG
  obtain ⟨c0, c1, c2, c3, c4, c5, c6, c7⟩ := id XX
  go_wp2_with (go_at_call 40; (with_reducible refine (HC.out _ hw).mono ?_); rintro e w1 ⟨⟨X, xx, rfl, hl1, hl2, hsl⟩, hb1⟩; have HQ1 : w1.heap[w.heap.size + 2]? = _ := (hb1.block _ l2).trans HQ; have y0 : w1.cell? ⟨w.heap.size + 2, 0, none⟩ = some (.int .i64 0) := (by rw [cell_of_row _ _ _ _ _ _ HQ1]; rfl); have y1 : w1.cell? ⟨w.heap.size + 2, 1, none⟩ = some (.slice none 0 0) := (by rw [cell_of_row _ _ _ _ _ _ HQ1]; rfl); have f0 := frozen_of_row w1 (w.heap.size + 2) 0 _ _ HQ1; have f1 := frozen_of_row w1 (w.heap.size + 2) 1 _ _ HQ1)
  have K := got_set HQ1 (.int .i64 0) (.slice X (q + 11) xx)
  exact bodyPost_ret (v := .agg #[.int .i64 0, .slice X (q + 11) xx]) (by simp [results, Tryz.results21, go_sem, K.1, K.2]) rfl ⟨⟨⟨0, X, xx, E⟩, rfl, rfl, rfl, HLE.out, ⟨(sl_2 hsl HQ1 _ _).more (by simp [World.size_setCell]), hl1, hl2, by show E.length ≤ 1048576; have := HLE.out; omega⟩⟩, ((bt hw hb1).setCell (p := ⟨w.heap.size + 2, 0, none⟩) (Nat.le_add_right _ 2) _).setCell (p := ⟨w.heap.size + 2, 1, none⟩) (Nat.le_add_right _ 2) _⟩
end Go.Proofs.YtpcadoekhoediaaGreatDoor.prr

namespace Go.Proofs.YtpcadoekhoediaaGreatDoor.prr
open Go.RowKit Go.Lib
open Go.Proofs.YtpcadoekhoediaaGreatDoor.gmt (Ok)
open Go.Proofs.YtpcadoekhoediaaGreatDoor.anc (AV AC ac_new bl kal kst ks bm ka)
open Go.Proofs.YtpcadoekhoediaaGreatDoor.tbl (G5 g5_new)
open Go.Proofs.YtpcadoekhoediaaGreatDoor.lrc (Rcd RcR C8 c8_new noRec SlotOk cellN F8 RecOk Head None8 encR)
open Go.Proofs.YtpcadoekhoediaaGreatDoor.sel (enc)

theorem ok1 : Ok 1 1 0 14 1 := by unfold Ok; omega
def comR : RcR := ⟨2, 1, 0, 1, 2, ⟨0, 0, none, 0, []⟩⟩
def blaR : RcR := ⟨0, 0, 0, 0, 0, ⟨0, 0, none, 0, []⟩⟩
theorem com_ok : RecOk 1 1 comR.d := .inr (.inl ⟨⟨by show (0 : Int) ≤ 1 ∧ (1 : Int) ≤ 4294967295; decide, by show (0 : Int) ≤ 0 ∧ (0 : Int) ≤ 4294967295; decide, by show (2 : Int) ≤ 2 ∧ (2 : Int) ≤ 30; decide⟩, rfl, rfl, rfl, rfl, rfl⟩)
theorem bla_ok : RecOk 1 1 blaR.d := .inl ⟨rfl, rfl, rfl, rfl, rfl, rfl, rfl, rfl⟩
theorem slot1 : SlotOk 14 1 4 := ⟨.inr rfl, by decide⟩
set_option maxRecDepth 100000 in
set_option maxHeartbeats 8000000 in
theorem wk_pair (w : World) (hc : Cpr w) : Calls Tryz.prog 13 #[] w fun e w' => e = .returned (.bool true) ∧ Below w.heap.size w w' := by
  have HC := Lib.hid hc
  have HS := Lib.hid fun W => tbl.some_one W
  have HFI := Lib.hid (show ∀ W, Calls Tryz.prog 29 #[.agg #[.int .i64 1, .int .i64 1, .int .i64 0, .int .i64 14, .int .i64 1], .string ⟨#[]⟩] W fun e w' => (∃ x : AV, e = .returned (.agg #[.int .i64 x.gen, .int .i64 x.ep, .int .i64 x.pos, .int .i64 x.seq, .int .i64 x.last, .string x.lab, .slice x.HA x.hs.length x.hc]) ∧ x.d = anc.firstA 1 1 ⟨#[]⟩ ∧ x.In w' w'.heap.size) ∧ Below W.heap.size W w' from fun W => by
    refine (anc.rfirst_any 1 1 0 14 1 ⟨#[]⟩ W ok1).mono ?_
    rintro e w' ⟨⟨y, rfl, hyd, hyo⟩, hb⟩
    exact ⟨⟨y, rfl, hyd, AV.Own.inn hyo⟩, hb⟩)
  clear hc
  go_enter Tryz.func13, Tryz.ntmps13
  go_upto_region 2 with (go_at_call 28; (with_reducible refine (HS.out _).mono ?_); rintro e w1 ⟨rfl, hb1⟩)
  have GG := g5_new w1 1 1 0 14 1
  have hw := kal hb1 (.cells #[.int .i64 1, .int .i64 1, .int .i64 0, .int .i64 14, .int .i64 1] 23)
  have lg : w1.heap.size < (w1.alloc (.cells #[.int .i64 1, .int .i64 1, .int .i64 0, .int .i64 14, .int .i64 1] 23)).heap.size := by simp
  clear hb1
  generalize w1.heap.size = gg at *
  generalize w1.alloc (.cells #[.int .i64 1, .int .i64 1, .int .i64 0, .int .i64 14, .int .i64 1] 23) = w2 at *
  obtain ⟨g0, g1, g2, g3, g4⟩ := id GG
  go_upto_region 3 with (go_at_call 29; (with_reducible refine (HFI.out _).mono ?_); rintro e w3 ⟨⟨x, rfl, hxd, hxi⟩, hb3⟩)
  have FF := ac_new w3 x
  have lx : w3.heap.size < (w3.alloc (.cells #[.int .i64 x.gen, .int .i64 x.ep, .int .i64 x.pos, .int .i64 x.seq, .int .i64 x.last, .string x.lab, .slice x.HA x.hs.length x.hc] 26)).heap.size := by simp
  have hb4 := kal hb3 (.cells #[.int .i64 x.gen, .int .i64 x.ep, .int .i64 x.pos, .int .i64 x.seq, .int .i64 x.last, .string x.lab, .slice x.HA x.hs.length x.hc] 26)
  have hxi4 := hxi.next (bl w3 (.cells #[.int .i64 x.gen, .int .i64 x.ep, .int .i64 x.pos, .int .i64 x.seq, .int .i64 x.last, .string x.lab, .slice x.HA x.hs.length x.hc] 26))
  have G4 := GG.keep hb4 lg
  have lg4 := Nat.lt_of_lt_of_le lg hb4.size
  have hw4 := bt hw hb4
  clear hb3 hb4 hxi GG lg hw g0 g1 g2 g3 g4
  generalize w3.heap.size = gx at *
  generalize w3.alloc (.cells #[.int .i64 x.gen, .int .i64 x.ep, .int .i64 x.pos, .int .i64 x.seq, .int .i64 x.last, .string x.lab, .slice x.HA x.hs.length x.hc] 26) = w4 at *
  obtain ⟨g0, g1, g2, g3, g4⟩ := id G4
  obtain ⟨x0, x1, x2, x3, x4, x5, x6⟩ := id FF
  go_upto_region 4 with fail
  have RR := c8_new w4 (.int .i64 2) (.int .i64 1) (.int .i64 0) (.int .i64 1) (.int .i64 2) (.int .i64 0) (.int .i64 0) (.slice none 0 0) 34
  have lr : w4.heap.size < (w4.alloc (.cells #[.int .i64 2, .int .i64 1, .int .i64 0, .int .i64 1, .int .i64 2, .int .i64 0, .int .i64 0, .slice none 0 0] 34)).heap.size := by simp
  have hb5 := bl w4 (.cells #[.int .i64 2, .int .i64 1, .int .i64 0, .int .i64 1, .int .i64 2, .int .i64 0, .int .i64 0, .slice none 0 0] 34)
  have G5' := G4.keep hb5 lg4
  have F5 := FF.keep hb5 lx
  have hx5 := hxi4.next hb5
  have lg5 := Nat.lt_of_lt_of_le lg4 hb5.size
  have lx5 := Nat.lt_of_lt_of_le lx hb5.size
  have hw5 := bt hw4 hb5
  clear hb5 G4 FF hxi4 lg4 lx hw4 g0 g1 g2 g3 g4 x0 x1 x2 x3 x4 x5 x6
  generalize w4.heap.size = gr at *
  generalize w4.alloc (.cells #[.int .i64 2, .int .i64 1, .int .i64 0, .int .i64 1, .int .i64 2, .int .i64 0, .int .i64 0, .slice none 0 0] 34) = w5 at *
  have hep : x.ep = 0 := congrArg anc.Anc.ep hxd
  have hlab : x.lab = ⟨#[]⟩ := congrArg anc.Anc.lab hxd
  have hgood : anc.Good 1 1 0 14 x.d := by rw [hxd]; exact anc.first_good ok1 (by decide)
  have HXF := Lib.hid (And.intro hep (And.intro hlab hgood))
  clear hxd hep hlab hgood
  have HCE := Lib.hid (show ∀ W, Below w5.heap.size w5 W → Calls Tryz.prog 21 #[.agg #[.int .i64 1, .int .i64 1, .int .i64 0, .int .i64 14, .int .i64 1], .agg #[.int .i64 2, .int .i64 1, .int .i64 0, .int .i64 1, .int .i64 2, .int .i64 0, .int .i64 0, .slice none 0 0], .int .i64 1, .int .i64 4] W fun e w' => CellA 22 (enc (cellN 14 1 1 4) (1 : Int).toNat (encR comR.d)) e w' ∧ Below W.heap.size W w' from fun W _ => celll_c 1 1 0 14 1 1 4 comR 0 11 W ok1 ⟨Sl.nil _ _ _, Nat.le_refl _, Nat.zero_le _⟩ rfl com_ok slot1 rfl)
  have HCB := Lib.hid (show ∀ W, Below w5.heap.size w5 W → Calls Tryz.prog 21 #[.agg #[.int .i64 1, .int .i64 1, .int .i64 0, .int .i64 14, .int .i64 1], .agg #[.int .i64 0, .int .i64 0, .int .i64 0, .int .i64 0, .int .i64 0, .int .i64 0, .int .i64 0, .slice none 0 0], .int .i64 1, .int .i64 4] W fun e w' => CellA 22 (enc (cellN 14 1 1 4) (0 : Int).toNat (encR blaR.d)) e w' ∧ Below W.heap.size W w' from fun W _ => celll_c 1 1 0 14 1 1 4 blaR 0 11 W ok1 ⟨Sl.nil _ _ _, Nat.le_refl _, Nat.zero_le _⟩ rfl bla_ok slot1 rfl)
  have HL1 := Lib.hid (show ∀ (G : Gt) (W : World), Below w5.heap.size w5 W → G.e = 0 → G.l = enc (cellN 14 1 1 4) (1 : Int).toNat (encR comR.d) → G.In W W.heap.size → Calls Tryz.prog 8 #[.agg #[.int .i64 1, .int .i64 1, .int .i64 0, .int .i64 14, .int .i64 1], .agg #[.int .i64 x.gen, .int .i64 x.ep, .int .i64 x.pos, .int .i64 x.seq, .int .i64 x.last, .string x.lab, .slice x.HA x.hs.length x.hc], .agg #[.int .i64 6, .slice none 0 0], .agg #[.int .i64 G.e, .slice G.A 22 G.c], .int .i64 4, .int .i64 1, .int .i64 1, .int .i64 2, .int .i64 14] W fun e w' => LookA W.heap.size comR.d [0] 1 0 e w' ∧ Below W.heap.size W w' from fun G W hW h0 h1 hi => by
    have hs := say_made (addr := cellN 14 1 1 4) com_ok (by decide) (by decide) (by decide)
    have h9 := HC.out.look false true false true 1 1 0 14 1 x ⟨6, none, 0, []⟩ G 0 22 4 1 1 2 14 W (bt hw5 hW) ok1 (hx5.next hW) (by rw [HXF.out.2.1]; decide) HXF.out.2.2 (by decide) ⟨Sl.nil _ _ _, Nat.le_refl _, Nat.zero_le _, Nat.zero_le _⟩ rfl hi (by rw [h1]; rfl) (iff_of_false Bool.false_ne_true (say_err (by decide))) (iff_of_true rfl (by rw [h0, h1]; exact hs.1)) (iff_of_false Bool.false_ne_true fun h => absurd h.1 Bool.false_ne_true) (iff_of_true rfl ⟨rfl, by
      rw [h1, show sayR (enc (cellN 14 1 1 4) (1 : Int).toNat (encR comR.d)) = comR.d from hs.2]
      exact ⟨by decide, rfl, rfl, fun _ => rfl, fun h => absurd h (by decide), .inl (by rw [HXF.out.1]; rfl)⟩⟩)
    rw [h1, show sayR (enc (cellN 14 1 1 4) (1 : Int).toNat (encR comR.d)) = comR.d from hs.2] at h9
    exact h9)
  have HL2 := Lib.hid (show ∀ (G : Gt) (W : World), Below w5.heap.size w5 W → G.e = 0 → G.l = enc (cellN 14 1 1 4) (0 : Int).toNat (encR blaR.d) → G.In W W.heap.size → Calls Tryz.prog 8 #[.agg #[.int .i64 1, .int .i64 1, .int .i64 0, .int .i64 14, .int .i64 1], .agg #[.int .i64 x.gen, .int .i64 x.ep, .int .i64 x.pos, .int .i64 x.seq, .int .i64 x.last, .string x.lab, .slice x.HA x.hs.length x.hc], .agg #[.int .i64 6, .slice none 0 0], .agg #[.int .i64 G.e, .slice G.A 22 G.c], .int .i64 4, .int .i64 1, .int .i64 1, .int .i64 2, .int .i64 14] W fun e w' => LookA W.heap.size noRec [] 2 0 e w' ∧ Below W.heap.size W w' from fun G W hW h0 h1 hi => by
    have hs := say_made (addr := cellN 14 1 1 4) bla_ok (by decide) (by decide) (by decide)
    have h9 := HC.out.look false true false false 1 1 0 14 1 x ⟨6, none, 0, []⟩ G 0 22 4 1 1 2 14 W (bt hw5 hW) ok1 (hx5.next hW) (by rw [HXF.out.2.1]; decide) HXF.out.2.2 (by decide) ⟨Sl.nil _ _ _, Nat.le_refl _, Nat.zero_le _, Nat.zero_le _⟩ rfl hi (by rw [h1]; rfl) (iff_of_false Bool.false_ne_true (say_err (by decide))) (iff_of_true rfl (by rw [h0, h1]; exact hs.1)) (iff_of_false Bool.false_ne_true fun h => absurd h.1 Bool.false_ne_true) (iff_of_false Bool.false_ne_true fun h => by
      have h2 := h.2
      rw [h1, show sayR (enc (cellN 14 1 1 4) (0 : Int).toNat (encR blaR.d)) = blaR.d from hs.2] at h2
      exact h2.1 rfl)
    exact h9)
  have HL3 := Lib.hid (show ∀ (W : World), Below w5.heap.size w5 W → Calls Tryz.prog 8 #[.agg #[.int .i64 1, .int .i64 1, .int .i64 0, .int .i64 14, .int .i64 1], .agg #[.int .i64 x.gen, .int .i64 x.ep, .int .i64 x.pos, .int .i64 x.seq, .int .i64 x.last, .string x.lab, .slice x.HA x.hs.length x.hc], .agg #[.int .i64 6, .slice none 0 0], .agg #[.int .i64 0, .slice none 0 0], .int .i64 4, .int .i64 1, .int .i64 1, .int .i64 2, .int .i64 14] W fun e w' => LookA W.heap.size noRec [] 3 0 e w' ∧ Below W.heap.size W w' from fun W hW => HC.out.look false false false false 1 1 0 14 1 x ⟨6, none, 0, []⟩ ⟨0, none, 0, []⟩ 0 0 4 1 1 2 14 W (bt hw5 hW) ok1 (hx5.next hW) (by rw [HXF.out.2.1]; decide) HXF.out.2.2 (by decide) ⟨Sl.nil _ _ _, Nat.le_refl _, Nat.zero_le _, Nat.zero_le _⟩ rfl ⟨Sl.nil _ _ _, Nat.le_refl _, Nat.zero_le _, Nat.zero_le _⟩ rfl (iff_of_false Bool.false_ne_true (say_err (by decide))) (iff_of_false Bool.false_ne_true say_none) (iff_of_false Bool.false_ne_true fun h => absurd h.1 Bool.false_ne_true) (iff_of_false Bool.false_ne_true fun h => absurd h.1 Bool.false_ne_true))
  have HFw5 := Lib.hid (show ∀ W, Below w5.heap.size w5 W → (W.cell? ⟨gg, 0, none⟩ = some (.int .i64 1) ∧ W.cell? ⟨gg, 1, none⟩ = some (.int .i64 1) ∧ W.cell? ⟨gg, 2, none⟩ = some (.int .i64 0) ∧ W.cell? ⟨gg, 3, none⟩ = some (.int .i64 14) ∧ W.cell? ⟨gg, 4, none⟩ = some (.int .i64 1) ∧ W.cell? ⟨gx, 0, none⟩ = some (.int .i64 x.gen) ∧ W.cell? ⟨gx, 1, none⟩ = some (.int .i64 x.ep) ∧ W.cell? ⟨gx, 2, none⟩ = some (.int .i64 x.pos) ∧ W.cell? ⟨gx, 3, none⟩ = some (.int .i64 x.seq) ∧ W.cell? ⟨gx, 4, none⟩ = some (.int .i64 x.last) ∧ W.cell? ⟨gx, 5, none⟩ = some (.string x.lab) ∧ W.cell? ⟨gx, 6, none⟩ = some (.slice x.HA x.hs.length x.hc) ∧ W.cell? ⟨gr, 0, none⟩ = some (.int .i64 2) ∧ W.cell? ⟨gr, 1, none⟩ = some (.int .i64 1) ∧ W.cell? ⟨gr, 2, none⟩ = some (.int .i64 0) ∧ W.cell? ⟨gr, 3, none⟩ = some (.int .i64 1) ∧ W.cell? ⟨gr, 4, none⟩ = some (.int .i64 2) ∧ W.cell? ⟨gr, 5, none⟩ = some (.int .i64 0) ∧ W.cell? ⟨gr, 6, none⟩ = some (.int .i64 0) ∧ W.cell? ⟨gr, 7, none⟩ = some (.slice none 0 0)) ∧ Below w5.heap.size w5 W from fun W h => by
    obtain ⟨g0, g1, g2, g3, g4⟩ := G5'.keep h lg5
    obtain ⟨x0, x1, x2, x3, x4, x5, x6⟩ := F5.keep h lx5
    obtain ⟨r0, r1, r2, r3, r4, r5, r6, r7⟩ := RR.keep h lr
    exact ⟨⟨g0, g1, g2, g3, g4, x0, x1, x2, x3, x4, x5, x6, r0, r1, r2, r3, r4, r5, r6, r7⟩, h⟩)
  go_cut [4, 5, 6, 7] from 86 (fun p wv hv ev wc => ∃ (gq : Nat) (X : Option Addr) (xc : Nat) (V : Option Addr) (vc : Nat), p = .pointer (some ⟨gq, 0, none⟩) ∧ wv = .slice V 1 vc ∧ hv = .int .i64 1 ∧ ev = .int .i64 0 ∧ wc.cell? ⟨gq, 3, none⟩ = some (.int .i64 1) ∧ gq < wc.heap.size ∧ OwnV wc w5.heap.size 3 (.slice V 1 vc) (ints [0]) ∧ Below w5.heap.size w5 wc)
  case first =>
    go_region_held3 (fun W => (W.cell? ⟨gg, 0, none⟩ = some (.int .i64 1) ∧ W.cell? ⟨gg, 1, none⟩ = some (.int .i64 1) ∧ W.cell? ⟨gg, 2, none⟩ = some (.int .i64 0) ∧ W.cell? ⟨gg, 3, none⟩ = some (.int .i64 14) ∧ W.cell? ⟨gg, 4, none⟩ = some (.int .i64 1) ∧ W.cell? ⟨gx, 0, none⟩ = some (.int .i64 x.gen) ∧ W.cell? ⟨gx, 1, none⟩ = some (.int .i64 x.ep) ∧ W.cell? ⟨gx, 2, none⟩ = some (.int .i64 x.pos) ∧ W.cell? ⟨gx, 3, none⟩ = some (.int .i64 x.seq) ∧ W.cell? ⟨gx, 4, none⟩ = some (.int .i64 x.last) ∧ W.cell? ⟨gx, 5, none⟩ = some (.string x.lab) ∧ W.cell? ⟨gx, 6, none⟩ = some (.slice x.HA x.hs.length x.hc) ∧ W.cell? ⟨gr, 0, none⟩ = some (.int .i64 2) ∧ W.cell? ⟨gr, 1, none⟩ = some (.int .i64 1) ∧ W.cell? ⟨gr, 2, none⟩ = some (.int .i64 0) ∧ W.cell? ⟨gr, 3, none⟩ = some (.int .i64 1) ∧ W.cell? ⟨gr, 4, none⟩ = some (.int .i64 2) ∧ W.cell? ⟨gr, 5, none⟩ = some (.int .i64 0) ∧ W.cell? ⟨gr, 6, none⟩ = some (.int .i64 0) ∧ W.cell? ⟨gr, 7, none⟩ = some (.slice none 0 0)) ∧ Below w5.heap.size w5 W)
      ((refine HFw5.out _ ?_; first
        | with_reducible exact hbL
        | with_reducible exact kal hbL _
        | with_reducible exact hbC
        | with_reducible exact kal hbC _
        | with_reducible exact below_dr (Below.refl _ _)
        | with_reducible exact below_dr (bl w5 _)
        | with_reducible exact kal (below_dr (Below.refl _ _)) _
        | with_reducible exact below_8 hbL hbC.size _ _ _ _ _ _ _ _
        | with_reducible exact below_8 hbL (Nat.le_refl _) _ _ _ _ _ _ _ _
        | fail))
      (first
        | (go_at_call 21; (with_reducible refine (HCE.out w5.drew (below_dr (Below.refl _ _))).mono ?_); rintro e wA ⟨⟨G, rfl, GE, GL, -, GI⟩, hbq⟩; have hbC : Below w5.heap.size w5 wA := bt (below_dr (Below.refl w5.heap.size w5)) hbq; have HGT := Lib.hid (And.intro GE GL); clear GE GL hbq)
        | (go_at_call 21; (with_reducible refine (HCE.out (w5.alloc (.cells #[.int .i64 0, .int .i64 0, .int .i64 0, .int .i64 0, .int .i64 0, .int .i64 0, .int .i64 0, .slice none 0 0] 34)).drew (below_dr (bl w5 _))).mono ?_); rintro e wA ⟨⟨G, rfl, GE, GL, -, GI⟩, hbq⟩; have hbC : Below w5.heap.size w5 wA := bt (below_dr (bl w5 (.cells #[.int .i64 0, .int .i64 0, .int .i64 0, .int .i64 0, .int .i64 0, .int .i64 0, .int .i64 0, .slice none 0 0] 34))) hbq; have PY : wA.heap[w5.heap.size]? = some (.cells #[.int .i64 0, .int .i64 0, .int .i64 0, .int .i64 0, .int .i64 0, .int .i64 0, .int .i64 0, .slice none 0 0] 34) := blk_far hbq (by simp) (heap_alloc_new w5 (.cells #[.int .i64 0, .int .i64 0, .int .i64 0, .int .i64 0, .int .i64 0, .int .i64 0, .int .i64 0, .slice none 0 0] 34)); have hlt := (Array.getElem?_eq_some_iff.1 PY).1; have HGT := Lib.hid (And.intro GE GL); clear GE GL hbq)
        | (go_at_call 8; (with_reducible refine (HL1.out G wA hbC HGT.out.1 HGT.out.2 GI).mono ?_); rintro e wB ⟨⟨X, xc, V, vc, rfl, hL1, hL2⟩, hbq⟩; have hbL := bt hbC hbq; (try (replace PY : wB.heap[w5.heap.size]? = some (.cells #[.int .i64 0, .int .i64 0, .int .i64 0, .int .i64 0, .int .i64 0, .int .i64 0, .int .i64 0, .slice none 0 0] 34) := blk_far hbq (Array.getElem?_eq_some_iff.1 PY).1 PY; obtain ⟨⟨z0, z1, z2, z3, z4, z5, z6, z7⟩, -⟩ := f8_rowW PY; obtain ⟨y0, y1, y2, y3, y4, y5, y6, y7⟩ := f8_all (f8_rowW PY))); clear hbq)
        | (go_at_call 8; (with_reducible refine (HL1.out G (wA.alloc (.cells #[.int .i64 0, .int .i64 0, .int .i64 0, .int .i64 0, .int .i64 0, .int .i64 0, .int .i64 0, .slice none 0 0] 34)) (kal hbC _) HGT.out.1 HGT.out.2 (GI.next (bl wA _))).mono ?_); rintro e wB ⟨⟨X, xc, V, vc, rfl, hL1, hL2⟩, hbq⟩; have hbL := bt (kal hbC _) hbq; have PY : wB.heap[wA.heap.size]? = some (.cells #[.int .i64 0, .int .i64 0, .int .i64 0, .int .i64 0, .int .i64 0, .int .i64 0, .int .i64 0, .slice none 0 0] 34) := blk_far hbq (by simp) (heap_alloc_new wA (.cells #[.int .i64 0, .int .i64 0, .int .i64 0, .int .i64 0, .int .i64 0, .int .i64 0, .int .i64 0, .slice none 0 0] 34)); (obtain ⟨⟨z0, z1, z2, z3, z4, z5, z6, z7⟩, -⟩ := f8_rowW PY); (obtain ⟨y0, y1, y2, y3, y4, y5, y6, y7⟩ := f8_all (f8_rowW PY)); clear hbq)
        | fail)
    all_goals (go_wp2_with fail; go_meet)
    · exact ⟨wB.heap.size, X, xc, V, vc, rfl, rfl, rfl, rfl, (c8_new wB (.int .i64 comR.d.kd) (.int .i64 comR.d.sq) (.int .i64 comR.d.ep) (.int .i64 comR.d.ps) (.int .i64 comR.d.nm) (.int .i64 comR.d.z) (.int .i64 comR.d.wh) (.slice X comR.d.l.length xc) 34).c3, by simp, (hL2.less hbC.size).below (bl wB _), kal hbL _⟩
    · exact ⟨wA.heap.size, X, xc, V, vc, rfl, rfl, rfl, rfl, (c8_all (f8_rowW PY).c (.int .i64 comR.d.kd) (.int .i64 comR.d.sq) (.int .i64 comR.d.ep) (.int .i64 comR.d.ps) (.int .i64 comR.d.nm) (.int .i64 comR.d.z) (.int .i64 comR.d.wh) (.slice X comR.d.l.length xc)).c3, by simp only [World.size_setCell]; exact (Array.getElem?_eq_some_iff.1 PY).1, (ownv_8 hL2 (by simp) _ _ _ _ _ _ _ _).less (kal hbC _).size, below_8 hbL hbC.size _ _ _ _ _ _ _ _⟩
    · exact ⟨w5.heap.size, X, xc, V, vc, rfl, rfl, rfl, rfl, (c8_all (f8_rowW PY).c (.int .i64 comR.d.kd) (.int .i64 comR.d.sq) (.int .i64 comR.d.ep) (.int .i64 comR.d.ps) (.int .i64 comR.d.nm) (.int .i64 comR.d.z) (.int .i64 comR.d.wh) (.slice X comR.d.l.length xc)).c3, by simp only [World.size_setCell]; exact (Array.getElem?_eq_some_iff.1 PY).1, (ownv_8 hL2 hlt _ _ _ _ _ _ _ _).less hbC.size, below_8 hbL (Nat.le_refl _) _ _ _ _ _ _ _ _⟩
  case rest =>
    obtain ⟨gq, X, xc, V, vc, rfl, rfl, rfl, rfl, hq3, hql, hV, hb6⟩ := hcut
    obtain ⟨w6, rfl⟩ : ∃ y, y = wc := ⟨wc, rfl⟩
    have HFw6 := Lib.hid (show ∀ W, Below w6.heap.size w6 W → (W.cell? ⟨gg, 0, none⟩ = some (.int .i64 1) ∧ W.cell? ⟨gg, 1, none⟩ = some (.int .i64 1) ∧ W.cell? ⟨gg, 2, none⟩ = some (.int .i64 0) ∧ W.cell? ⟨gg, 3, none⟩ = some (.int .i64 14) ∧ W.cell? ⟨gg, 4, none⟩ = some (.int .i64 1) ∧ W.cell? ⟨gx, 0, none⟩ = some (.int .i64 x.gen) ∧ W.cell? ⟨gx, 1, none⟩ = some (.int .i64 x.ep) ∧ W.cell? ⟨gx, 2, none⟩ = some (.int .i64 x.pos) ∧ W.cell? ⟨gx, 3, none⟩ = some (.int .i64 x.seq) ∧ W.cell? ⟨gx, 4, none⟩ = some (.int .i64 x.last) ∧ W.cell? ⟨gx, 5, none⟩ = some (.string x.lab) ∧ W.cell? ⟨gx, 6, none⟩ = some (.slice x.HA x.hs.length x.hc) ∧ W.cell? ⟨gr, 0, none⟩ = some (.int .i64 2) ∧ W.cell? ⟨gr, 1, none⟩ = some (.int .i64 1) ∧ W.cell? ⟨gr, 2, none⟩ = some (.int .i64 0) ∧ W.cell? ⟨gr, 3, none⟩ = some (.int .i64 1) ∧ W.cell? ⟨gr, 4, none⟩ = some (.int .i64 2) ∧ W.cell? ⟨gr, 5, none⟩ = some (.int .i64 0) ∧ W.cell? ⟨gr, 6, none⟩ = some (.int .i64 0) ∧ W.cell? ⟨gr, 7, none⟩ = some (.slice none 0 0)) ∧ Below w6.heap.size w6 W from fun W h => ⟨(HFw5.out W (bt hb6 h)).1, h⟩)
    have HCB6 := Lib.hid (fun W (hW : Below w6.heap.size w6 W) => HCB.out W (bt hb6 hW))
    have HL26 := Lib.hid (fun G W (hW : Below w6.heap.size w6 W) => HL2.out G W (bt hb6 hW))
    have HIN := Lib.hid (show ∀ W, Below w6.heap.size w6 W → Calls Tryz.prog 17 #[.slice V 1 vc, .slice (some ⟨W.heap.size, 0, none⟩) 1 1] (W.alloc (.cells #[.int .i64 0] 3)) fun e w' => e = .returned (.bool true) ∧ Below W.heap.size W w' from fun W hW => by
      obtain ⟨A', c', he, h1, h2, hsl, -⟩ := hV.form
      simp only [Value.slice.injEq] at he
      obtain ⟨rfl, -, rfl⟩ := he
      have h9 := ints_any V (some ⟨W.heap.size, 0, none⟩) vc 1 _ _ 1 1 [0] [0] (W.alloc (.cells #[.int .i64 0] 3)) rfl rfl (hsl.next (kal hW (.cells #[.int .i64 0] 3))) (SlV.of_block (vs := [.int .i64 0]) (heap_alloc_new W _) rfl (by simp)) (Nat.le_refl _) (Nat.le_refl _) (by decide)
      refine h9.mono ?_
      rintro e w' ⟨rfl, hb⟩
      exact ⟨rfl, bt (bl W _) hb⟩)
    obtain ⟨⟨g0, g1, g2, g3, g4, x0, x1, x2, x3, x4, x5, x6, r0, r1, r2, r3, r4, r5, r6, r7⟩, -⟩ := HFw6.out w6 (Below.refl _ _)
    go_upto_region 5 with fail
    go_cut [10, 11] from 86 (fun hv ev wc => hv = .int .i64 2 ∧ ev = .int .i64 0 ∧ Below w6.heap.size w6 wc)
    case first =>
      go_region_held3 (fun W => (W.cell? ⟨gg, 0, none⟩ = some (.int .i64 1) ∧ W.cell? ⟨gg, 1, none⟩ = some (.int .i64 1) ∧ W.cell? ⟨gg, 2, none⟩ = some (.int .i64 0) ∧ W.cell? ⟨gg, 3, none⟩ = some (.int .i64 14) ∧ W.cell? ⟨gg, 4, none⟩ = some (.int .i64 1) ∧ W.cell? ⟨gx, 0, none⟩ = some (.int .i64 x.gen) ∧ W.cell? ⟨gx, 1, none⟩ = some (.int .i64 x.ep) ∧ W.cell? ⟨gx, 2, none⟩ = some (.int .i64 x.pos) ∧ W.cell? ⟨gx, 3, none⟩ = some (.int .i64 x.seq) ∧ W.cell? ⟨gx, 4, none⟩ = some (.int .i64 x.last) ∧ W.cell? ⟨gx, 5, none⟩ = some (.string x.lab) ∧ W.cell? ⟨gx, 6, none⟩ = some (.slice x.HA x.hs.length x.hc) ∧ W.cell? ⟨gr, 0, none⟩ = some (.int .i64 2) ∧ W.cell? ⟨gr, 1, none⟩ = some (.int .i64 1) ∧ W.cell? ⟨gr, 2, none⟩ = some (.int .i64 0) ∧ W.cell? ⟨gr, 3, none⟩ = some (.int .i64 1) ∧ W.cell? ⟨gr, 4, none⟩ = some (.int .i64 2) ∧ W.cell? ⟨gr, 5, none⟩ = some (.int .i64 0) ∧ W.cell? ⟨gr, 6, none⟩ = some (.int .i64 0) ∧ W.cell? ⟨gr, 7, none⟩ = some (.slice none 0 0)) ∧ Below w6.heap.size w6 W)
        ((refine HFw6.out _ ?_; first
          | with_reducible exact hbL
          | with_reducible exact kal hbL _
          | with_reducible exact hbC
          | with_reducible exact kal hbC _
          | with_reducible exact below_dr (Below.refl _ _)
          | with_reducible exact below_dr (bl w6 _)
          | with_reducible exact kal (below_dr (Below.refl _ _)) _
          | with_reducible exact below_8 hbL hbC.size _ _ _ _ _ _ _ _
          | with_reducible exact below_8 hbL (Nat.le_refl _) _ _ _ _ _ _ _ _
          | fail))
        (first
          | (go_at_call 21; (with_reducible refine (HCB6.out w6.drew (below_dr (Below.refl _ _))).mono ?_); rintro e wA ⟨⟨G, rfl, GE, GL, -, GI⟩, hbq⟩; have hbC : Below w6.heap.size w6 wA := bt (below_dr (Below.refl w6.heap.size w6)) hbq; have HGT := Lib.hid (And.intro GE GL); clear GE GL hbq)
          | (go_at_call 21; (with_reducible refine (HCB6.out (w6.alloc (.cells #[.int .i64 0, .int .i64 0, .int .i64 0, .int .i64 0, .int .i64 0, .int .i64 0, .int .i64 0, .slice none 0 0] 34)).drew (below_dr (bl w6 _))).mono ?_); rintro e wA ⟨⟨G, rfl, GE, GL, -, GI⟩, hbq⟩; have hbC : Below w6.heap.size w6 wA := bt (below_dr (bl w6 (.cells #[.int .i64 0, .int .i64 0, .int .i64 0, .int .i64 0, .int .i64 0, .int .i64 0, .int .i64 0, .slice none 0 0] 34))) hbq; have PY : wA.heap[w6.heap.size]? = some (.cells #[.int .i64 0, .int .i64 0, .int .i64 0, .int .i64 0, .int .i64 0, .int .i64 0, .int .i64 0, .slice none 0 0] 34) := blk_far hbq (by simp) (heap_alloc_new w6 (.cells #[.int .i64 0, .int .i64 0, .int .i64 0, .int .i64 0, .int .i64 0, .int .i64 0, .int .i64 0, .slice none 0 0] 34)); have hlt := (Array.getElem?_eq_some_iff.1 PY).1; have HGT := Lib.hid (And.intro GE GL); clear GE GL hbq)
          | (go_at_call 8; (with_reducible refine (HL26.out G wA hbC HGT.out.1 HGT.out.2 GI).mono ?_); rintro e wB ⟨⟨X, xc, V, vc, rfl, hL1, hL2⟩, hbq⟩; have hbL := bt hbC hbq; (try (replace PY : wB.heap[w6.heap.size]? = some (.cells #[.int .i64 0, .int .i64 0, .int .i64 0, .int .i64 0, .int .i64 0, .int .i64 0, .int .i64 0, .slice none 0 0] 34) := blk_far hbq (Array.getElem?_eq_some_iff.1 PY).1 PY; obtain ⟨⟨z0, z1, z2, z3, z4, z5, z6, z7⟩, -⟩ := f8_rowW PY; obtain ⟨y0, y1, y2, y3, y4, y5, y6, y7⟩ := f8_all (f8_rowW PY))); clear hbq)
          | (go_at_call 8; (with_reducible refine (HL26.out G (wA.alloc (.cells #[.int .i64 0, .int .i64 0, .int .i64 0, .int .i64 0, .int .i64 0, .int .i64 0, .int .i64 0, .slice none 0 0] 34)) (kal hbC _) HGT.out.1 HGT.out.2 (GI.next (bl wA _))).mono ?_); rintro e wB ⟨⟨X, xc, V, vc, rfl, hL1, hL2⟩, hbq⟩; have hbL := bt (kal hbC _) hbq; have PY : wB.heap[wA.heap.size]? = some (.cells #[.int .i64 0, .int .i64 0, .int .i64 0, .int .i64 0, .int .i64 0, .int .i64 0, .int .i64 0, .slice none 0 0] 34) := blk_far hbq (by simp) (heap_alloc_new wA (.cells #[.int .i64 0, .int .i64 0, .int .i64 0, .int .i64 0, .int .i64 0, .int .i64 0, .int .i64 0, .slice none 0 0] 34)); (obtain ⟨⟨z0, z1, z2, z3, z4, z5, z6, z7⟩, -⟩ := f8_rowW PY); (obtain ⟨y0, y1, y2, y3, y4, y5, y6, y7⟩ := f8_all (f8_rowW PY)); clear hbq)
          | fail)
      all_goals (go_wp2_with fail; go_meet)
      · exact ⟨rfl, rfl, kal hbL _⟩
      · exact ⟨rfl, rfl, below_8 hbL hbC.size _ _ _ _ _ _ _ _⟩
      · exact ⟨rfl, rfl, below_8 hbL (Nat.le_refl _) _ _ _ _ _ _ _ _⟩
    case rest =>
      obtain ⟨rfl, rfl, hb7⟩ := hcut
      obtain ⟨w7, rfl⟩ : ∃ y, y = wc := ⟨wc, rfl⟩
      clear g0 g1 g2 g3 g4 x0 x1 x2 x3 x4 x5 x6 r0 r1 r2 r3 r4 r5 r6 r7
      obtain ⟨⟨g0, g1, g2, g3, g4, x0, x1, x2, x3, x4, x5, x6, r0, r1, r2, r3, r4, r5, r6, r7⟩, -⟩ := HFw6.out w7 hb7
      go_upto_region 7 with (go_at_call 8; (with_reducible refine (HL3.out _ (bt hb6 hb7)).mono ?_); rintro e w8 ⟨⟨X2, xc2, V2, vc2, rfl, -, -⟩, hbq⟩)
      have hb8 := kal (bt hb7 hbq) (.cells #[.int .i64 noRec.kd, .int .i64 noRec.sq, .int .i64 noRec.ep, .int .i64 noRec.ps, .int .i64 noRec.nm, .int .i64 noRec.z, .int .i64 noRec.wh, .slice X2 noRec.l.length xc2] 34)
      clear g0 g1 g2 g3 g4 x0 x1 x2 x3 x4 x5 x6 r0 r1 r2 r3 r4 r5 r6 r7 hbq
      generalize w8.alloc (.cells #[.int .i64 noRec.kd, .int .i64 noRec.sq, .int .i64 noRec.ep, .int .i64 noRec.ps, .int .i64 noRec.nm, .int .i64 noRec.z, .int .i64 noRec.wh, .slice X2 noRec.l.length xc2] 34) = w9 at *
      have q3 := ks hb8 hql hq3
      go_wp2_with (go_at_call 17; (with_reducible refine (HIN.out _ hb8).mono ?_); rintro e w10 ⟨rfl, hb10⟩)
      go_ret
      exact ⟨rfl, bt hw5 (bt hb6 (bt hb8 hb10))⟩
end Go.Proofs.YtpcadoekhoediaaGreatDoor.prr
