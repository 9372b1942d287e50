/-
  The document's own bytes of a record, as it lies (rbytes_c); its own cell of a record (RecCell). Conditions: a right record.
-/
import Derived.Test.YtpcadoekhoediaaGreatDoorRcU
import Derived.Test.YtpcadoekhoediaaGreatDoorGSl
namespace Go.Proofs.YtpcadoekhoediaaGreatDoor.lrc
open Go.RowKit Go.Lib
open Go.Proofs.YtpcadoekhoediaaGreatDoor.gmt (Ok)
open Go.Proofs.YtpcadoekhoediaaGreatDoor.anc (bl kal kst ks bm ka)
open Go.Proofs.YtpcadoekhoediaaGreatDoor.tbl (C1 c1_new G5 g5_new)
open Go.Proofs.YtpcadoekhoediaaGreatDoor.img
open Go.Proofs.YtpcadoekhoediaaGreatDoor.pck (le le_length)
open Go.Proofs.YtpcadoekhoediaaGreatDoor.sel (Lies enc ref_seal)

set_option maxRecDepth 100000 in
set_option maxHeartbeats 8000000 in
theorem rbytes_c (z d s l a : Int) (r : RcR) (n : Nat) (w : World) (ho : Ok z d s l a) (hx : BIn w w.heap.size r.i) (hn : r.i.l.length = n) (hr : RecOk z d r.d) :
    Calls Tryz.prog 60 #[.agg #[.int .i64 r.kd, .int .i64 r.sq, .int .i64 r.ep, .int .i64 r.ps, .int .i64 r.nm, .int .i64 r.i.z, .int .i64 r.i.wh, .slice r.i.A n r.i.c]] w fun e w' => One w.heap.size (encR r.d) e w' ∧ Below w.heap.size w w' := by
  have hl := (recOk_len hr ⟨ho.2.1.1, ho.2.1.2⟩).1
  have h45 : r.i.l.length ≤ 45 := hl
  obtain ⟨⟨k0, k1⟩, ⟨s0, s1⟩, ⟨e0, e1⟩, ⟨p0, p1⟩, ⟨m0, m1⟩, z0, hwh⟩ : (0 ≤ r.kd ∧ r.kd < 3) ∧ (0 ≤ r.sq ∧ r.sq < 4294967296) ∧ (0 ≤ r.ep ∧ r.ep < 4294967296) ∧ (0 ≤ r.ps ∧ r.ps < 256) ∧ (0 ≤ r.nm ∧ r.nm < 256) ∧ (0 ≤ r.i.z ∧ r.i.z < 256) ∧ (r.i.wh = 255 ∨ (-1 ≤ r.i.wh ∧ r.i.wh ≤ 3)) := by
    obtain ⟨⟨hz0, hz1⟩, ⟨hd0, hd1⟩, -⟩ := ho
    rcases hr with ⟨h0, h1, h2, h3, h4, h5, h6, h7⟩ | ⟨⟨g1, g2, g3⟩, h0, h1, h5, h6, h7⟩ | ⟨⟨g1, g2, g3⟩, h0, h1, h2⟩
    · simp only [RcR.d] at *
      omega
    · simp only [RcR.d] at *
      omega
    · have hw := imOk_wh h2
      have hzz := h2.1
      simp only [RcR.d] at *
      omega
  obtain ⟨K, hK⟩ := Int.eq_ofNat_of_zero_le k0
  obtain ⟨SQ, hSQ⟩ := Int.eq_ofNat_of_zero_le s0
  obtain ⟨EP, hEP⟩ := Int.eq_ofNat_of_zero_le e0
  obtain ⟨PS, hPS⟩ := Int.eq_ofNat_of_zero_le p0
  obtain ⟨NM, hNM⟩ := Int.eq_ofNat_of_zero_le m0
  have h := rbytes_main K SQ EP PS NM r.i.z r.i.wh r.i.A n r.i.c r.i.l w (by omega) (by omega) (by omega) (by omega) (by omega) z0 hwh hn (by omega) hx.1
  have hd : r.d = ⟨K, SQ, EP, PS, NM, r.i.z, r.i.wh, r.i.l⟩ := by unfold RcR.d; rw [hK, hSQ, hEP, hPS, hNM]
  rw [hd, hK, hSQ, hEP, hPS, hNM]
  exact h
/-- Bytes that are told: q of them. -/
def BytA (q : Nat) (l : List UInt8) (e : Ending) (w' : World) : Prop := ∃ (X : Option Addr) (x : Nat), e = .returned (.slice X q x) ∧ Lies w' X x l
set_option maxRecDepth 100000 in
set_option maxHeartbeats 8000000 in
theorem rcell_any (a s n c : Nat) (A : Option Addr) (l : List UInt8) (w : World) (ha : a < 65536) (hs : s < 4294967296) (hln : l.length = n) (hn : n ≤ 96) (hA : Sl w w.heap.size A l) :
    Calls Tryz.prog 59 #[.int .i64 a, .int .i64 s, .slice A n c] w fun e w' => BytA (n + 11) (enc a s l) e w' ∧ Below w.heap.size w w' := by
  have HS := Lib.hid (ref_seal a s n c A l w ha hs hln hn hA)
  clear hA hln
  go_enter Tryz.func59, Tryz.ntmps59
  go_wp2_with (go_at_call 78; (with_reducible refine HS.out.mono ?_); rintro e w1 ⟨⟨X, x, rfl, hx⟩, hb1⟩)
  go_ret
  exact ⟨⟨X, x, rfl, hx⟩, hb1⟩
set_option maxRecDepth 100000 in
set_option maxHeartbeats 8000000 in
theorem rrec_cell (z d s l a cp sl : Int) (r : RcR) (n q : Nat) (w : World) (ho : Ok z d s l a) (hx : BIn w w.heap.size r.i) (hn : r.i.l.length = n) (hr : RecOk z d r.d) (hs : SlotOk l cp sl) (hq : (encR r.d).length = q) :
    Calls Tryz.prog 40 #[.agg #[.int .i64 z, .int .i64 d, .int .i64 s, .int .i64 l, .int .i64 a], .agg #[.int .i64 r.kd, .int .i64 r.sq, .int .i64 r.ep, .int .i64 r.ps, .int .i64 r.nm, .int .i64 r.i.z, .int .i64 r.i.wh, .slice r.i.A n r.i.c], .int .i64 cp, .int .i64 sl] w fun e w' => BytA (q + 11) (enc (cellN l a cp sl) r.sq.toNat (encR r.d)) e w' ∧ Below w.heap.size w w' := by
  have s1 : (w.alloc (.cells #[.int .i64 z, .int .i64 d, .int .i64 s, .int .i64 l, .int .i64 a] 23)).heap.size = w.heap.size + 1 := by simp
  have XX := c8_new (w.alloc (.cells #[.int .i64 z, .int .i64 d, .int .i64 s, .int .i64 l, .int .i64 a] 23)) (.int .i64 r.kd) (.int .i64 r.sq) (.int .i64 r.ep) (.int .i64 r.ps) (.int .i64 r.nm) (.int .i64 r.i.z) (.int .i64 r.i.wh) (.slice r.i.A n r.i.c) 34
  rw [s1] at XX
  have hw := kal (bl w (.cells #[.int .i64 z, .int .i64 d, .int .i64 s, .int .i64 l, .int .i64 a] 23)) (.cells #[.int .i64 r.kd, .int .i64 r.sq, .int .i64 r.ep, .int .i64 r.ps, .int .i64 r.nm, .int .i64 r.i.z, .int .i64 r.i.wh, .slice r.i.A n r.i.c] 34)
  have l2 : ((w.alloc (.cells #[.int .i64 z, .int .i64 d, .int .i64 s, .int .i64 l, .int .i64 a] 23)).alloc (.cells #[.int .i64 r.kd, .int .i64 r.sq, .int .i64 r.ep, .int .i64 r.ps, .int .i64 r.nm, .int .i64 r.i.z, .int .i64 r.i.wh, .slice r.i.A n r.i.c] 34)).heap.size = w.heap.size + 2 := by simp
  have GG : G5 ((w.alloc (.cells #[.int .i64 z, .int .i64 d, .int .i64 s, .int .i64 l, .int .i64 a] 23)).alloc (.cells #[.int .i64 r.kd, .int .i64 r.sq, .int .i64 r.ep, .int .i64 r.ps, .int .i64 r.nm, .int .i64 r.i.z, .int .i64 r.i.wh, .slice r.i.A n r.i.c] 34)) w.heap.size z d s l a := (g5_new w z d s l a).keep (bl _ _) (by simp)
  have h59 := (encR_short hr ⟨ho.2.1.1, ho.2.1.2⟩).2
  have hN : (cellN l a cp sl : Int) = a + cp * l + sl ∧ cellN l a cp sl < 65536 := by
    obtain ⟨h1, h2, h3, h4, h5⟩ := ho
    obtain ⟨k1, k2⟩ := hs
    unfold cellN
    rcases k1 with rfl | rfl <;> omega
  have hsq : 0 ≤ r.sq ∧ r.sq < 4294967296 := by
    rcases hr with ⟨h0, h1, h2, h3, h4, h5, h6, h7⟩ | ⟨⟨g1, g2, g3⟩, h0, h1, h5, h6, h7⟩ | ⟨⟨g1, g2, g3⟩, h0, h1, h2⟩ <;> (simp only [RcR.d] at *; omega)
  have HLA := Lib.hid (show ∀ W, Calls Tryz.prog 31 #[.agg #[.int .i64 z, .int .i64 d, .int .i64 s, .int .i64 l, .int .i64 a], .int .i64 cp, .int .i64 sl] W fun e w' => e = .returned (.int .i64 (cellN l a cp sl)) ∧ Below W.heap.size W w' from fun W => by
    have h := gmt.rlog_at z d s l a cp sl W ho (by have := hs.1; omega) (by have := hs.2; omega)
    rwa [← hN.1] at h)
  have HBY := Lib.hid (show ∀ W, Below w.heap.size w W → Calls Tryz.prog 60 #[.agg #[.int .i64 r.kd, .int .i64 r.sq, .int .i64 r.ep, .int .i64 r.ps, .int .i64 r.nm, .int .i64 r.i.z, .int .i64 r.i.wh, .slice r.i.A n r.i.c]] W fun e w' => One W.heap.size (encR r.d) e w' ∧ Below W.heap.size W w' from fun W hW => rbytes_c z d s l a r n W ho (hx.next hW) hn hr)
  have HCE := Lib.hid (show ∀ (W : World) (A : Option Addr) (c : Nat), Sl W W.heap.size A (encR r.d) → Calls Tryz.prog 59 #[.int .i64 (cellN l a cp sl), .int .i64 r.sq, .slice A q c] W fun e w' => BytA (q + 11) (enc (cellN l a cp sl) r.sq.toNat (encR r.d)) e w' ∧ Below W.heap.size W w' from fun W A c h => by
    have h9 := rcell_any (cellN l a cp sl) r.sq.toNat q c A (encR r.d) W hN.2 (by omega) hq (by omega) h
    rwa [Int.toNat_of_nonneg hsq.1] at h9)
  have HQ := Lib.hid hq
  clear hx hn hr hs ho hN hsq h59 hq
  generalize cellN l a cp sl = N at *
  go_enter Tryz.func40, Tryz.ntmps40
  go_upto_region 1 with fail
  generalize (w.alloc (.cells #[.int .i64 z, .int .i64 d, .int .i64 s, .int .i64 l, .int .i64 a] 23)).alloc (.cells #[.int .i64 r.kd, .int .i64 r.sq, .int .i64 r.ep, .int .i64 r.ps, .int .i64 r.nm, .int .i64 r.i.z, .int .i64 r.i.wh, .slice r.i.A n r.i.c] 34) = w0 at *
  have HF := Lib.hid (show ∀ W, Below w0.heap.size w0 W → (W.cell? ⟨w.heap.size, 0, none⟩ = some (.int .i64 z) ∧ W.cell? ⟨w.heap.size, 1, none⟩ = some (.int .i64 d) ∧ W.cell? ⟨w.heap.size, 2, none⟩ = some (.int .i64 s) ∧ W.cell? ⟨w.heap.size, 3, none⟩ = some (.int .i64 l) ∧ W.cell? ⟨w.heap.size, 4, none⟩ = some (.int .i64 a) ∧ W.cell? ⟨(w.heap.size + 1), 0, none⟩ = some (.int .i64 r.kd) ∧ W.cell? ⟨(w.heap.size + 1), 1, none⟩ = some (.int .i64 r.sq) ∧ W.cell? ⟨(w.heap.size + 1), 2, none⟩ = some (.int .i64 r.ep) ∧ W.cell? ⟨(w.heap.size + 1), 3, none⟩ = some (.int .i64 r.ps) ∧ W.cell? ⟨(w.heap.size + 1), 4, none⟩ = some (.int .i64 r.nm) ∧ W.cell? ⟨(w.heap.size + 1), 5, none⟩ = some (.int .i64 r.i.z) ∧ W.cell? ⟨(w.heap.size + 1), 6, none⟩ = some (.int .i64 r.i.wh) ∧ W.cell? ⟨(w.heap.size + 1), 7, none⟩ = some (.slice r.i.A n r.i.c)) ∧ Below w0.heap.size w0 W from fun W h => by
    obtain ⟨g0, g1, g2, g3, g4⟩ := GG.keep h (by omega)
    obtain ⟨c0, c1, c2, c3, c4, c5, c6, c7⟩ := XX.keep h (by omega)
    exact ⟨⟨g0, g1, g2, g3, g4, c0, c1, c2, c3, c4, c5, c6, c7⟩, h⟩)
  clear GG XX
  go_region_held3 (fun W => (W.cell? ⟨w.heap.size, 0, none⟩ = some (.int .i64 z) ∧ W.cell? ⟨w.heap.size, 1, none⟩ = some (.int .i64 d) ∧ W.cell? ⟨w.heap.size, 2, none⟩ = some (.int .i64 s) ∧ W.cell? ⟨w.heap.size, 3, none⟩ = some (.int .i64 l) ∧ W.cell? ⟨w.heap.size, 4, none⟩ = some (.int .i64 a) ∧ W.cell? ⟨(w.heap.size + 1), 0, none⟩ = some (.int .i64 r.kd) ∧ W.cell? ⟨(w.heap.size + 1), 1, none⟩ = some (.int .i64 r.sq) ∧ W.cell? ⟨(w.heap.size + 1), 2, none⟩ = some (.int .i64 r.ep) ∧ W.cell? ⟨(w.heap.size + 1), 3, none⟩ = some (.int .i64 r.ps) ∧ W.cell? ⟨(w.heap.size + 1), 4, none⟩ = some (.int .i64 r.nm) ∧ W.cell? ⟨(w.heap.size + 1), 5, none⟩ = some (.int .i64 r.i.z) ∧ W.cell? ⟨(w.heap.size + 1), 6, none⟩ = some (.int .i64 r.i.wh) ∧ W.cell? ⟨(w.heap.size + 1), 7, none⟩ = some (.slice r.i.A n r.i.c)) ∧ Below w0.heap.size w0 W)
    ((refine HF.out _ ?_; first
      | with_reducible exact hb3
      | with_reducible exact hb2
      | with_reducible exact hb1
      | with_reducible exact below_dr (Below.refl _ _)
      | fail))
    (first
      | (go_at_call 31; (with_reducible refine (HLA.out _).mono ?_); rintro e w1 ⟨rfl, hbq⟩; have hb1 := bt (below_dr (Below.refl w0.heap.size w0)) hbq; clear hbq)
      | (go_at_call 60; (with_reducible refine (HBY.out _ (bt hw hb1)).mono ?_); rintro e w2 ⟨⟨v2, rfl, o2⟩, hbq⟩; obtain ⟨X2, x2, hv2, o2'⟩ := own_q5 o2 HQ.out; subst hv2; have hs2 := (own_bytes o2').2.2.2; have hb2 := bt hb1 hbq; clear hbq)
      | (go_at_call 59; (with_reducible refine (HCE.out _ _ _ hs2).mono ?_); rintro e w3 ⟨⟨X3, x3, rfl, hl3⟩, hbq⟩; have hb3 := bt hb2 hbq; clear hbq)
      | fail)
  go_wp2_with fail
  go_ret
  exact ⟨⟨X3, x3, rfl, hl3⟩, bt hw hb3⟩
end Go.Proofs.YtpcadoekhoediaaGreatDoor.lrc
