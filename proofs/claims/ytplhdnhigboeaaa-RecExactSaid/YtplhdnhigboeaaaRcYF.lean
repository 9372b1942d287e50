/-
  The developers' own Cell. Conditions: byte strings shorter than 2^20.
-/
import Derived.Test.YtplhdnhigboeaaaRcYE
namespace Go.Proofs.Ytplhdnhigboeaaa.lrc
open Go.RowKit Go.Lib
open Go.Proofs.Ytplhdnhigboeaaa.gmt (Ok)
open Go.Proofs.Ytplhdnhigboeaaa.anc (bl kal kst ks bm ka)
open Go.Proofs.Ytplhdnhigboeaaa.tbl (C1 c1_new G5 g5_new)
open Go.Proofs.Ytplhdnhigboeaaa.img
open Go.Proofs.Ytplhdnhigboeaaa.pck (le le_length num)

theorem make_own (u sq : Int) (X : Option Addr) (m x base : Nat) (E : List UInt8) (W : World) (ho : sel.OkS u sq) (hm : E.length = m) (h96 : m ≤ 96) (hown : Own W base 5 (.slice X m x) E) :
    Calls Try.prog 43 #[.agg #[.int .i64 u, .int .i64 sq, .slice X m x]] W fun e w' => pck.Put W.heap.size (sel.enc u.toNat sq.toNat E) e w' ∧ Below W.heap.size W w' := by
  obtain ⟨A1, c1, e1, -, -, k1, -⟩ := hown.form
  have k2 : X = A1 := (Value.slice.injEq .. ▸ e1).1
  rw [k2]
  exact sel.make_ok u sq A1 m x W E ho hm h96 k1
set_option maxRecDepth 100000 in
set_option maxHeartbeats 8000000 in
theorem cell_c (z d s l a : Int) (cp sl : Int) (r : RcR) (n : Nat) (w : World) (ho : Ok z d s l a) (hx : BIn w w.heap.size r.i) (hn : r.i.l.length = n) (hr : RecOk z d r.d) (hs : SlotOk l cp sl) :
    Calls Try.prog 14 #[.agg #[.int .i64 z, .int .i64 d, .int .i64 s, .int .i64 l, .int .i64 a], .agg #[.int .i64 r.kd, .int .i64 r.sq, .int .i64 r.ep, .int .i64 r.ps, .int .i64 r.nm, .int .i64 r.i.z, .int .i64 r.i.wh, .slice r.i.A n r.i.c], .int .i64 cp, .int .i64 sl] w fun e w' => BytR w.heap.size (sel.enc (cellN l a cp sl) r.sq.toNat (encR r.d)) e w' ∧ Below w.heap.size w w' := by
  have s1 : (w.alloc (.cells #[.int .i64 z, .int .i64 d, .int .i64 s, .int .i64 l, .int .i64 a] 23)).heap.size = w.heap.size + 1 := by simp
  have hx2 := bl (w.alloc (.cells #[.int .i64 z, .int .i64 d, .int .i64 s, .int .i64 l, .int .i64 a] 23)) (.cells #[.int .i64 r.kd, .int .i64 r.sq, .int .i64 r.ep, .int .i64 r.ps, .int .i64 r.nm, .int .i64 r.i.z, .int .i64 r.i.wh, .slice r.i.A n r.i.c] 28)
  have GG := (g5_new w z d s l a).keep hx2 (by omega)
  have RR := c8_new (w.alloc (.cells #[.int .i64 z, .int .i64 d, .int .i64 s, .int .i64 l, .int .i64 a] 23)) (.int .i64 r.kd) (.int .i64 r.sq) (.int .i64 r.ep) (.int .i64 r.ps) (.int .i64 r.nm) (.int .i64 r.i.z) (.int .i64 r.i.wh) (.slice r.i.A n r.i.c) 28
  rw [s1] at RR
  have hw := kal (bl w (.cells #[.int .i64 z, .int .i64 d, .int .i64 s, .int .i64 l, .int .i64 a] 23)) (.cells #[.int .i64 r.kd, .int .i64 r.sq, .int .i64 r.ep, .int .i64 r.ps, .int .i64 r.nm, .int .i64 r.i.z, .int .i64 r.i.wh, .slice r.i.A n r.i.c] 28)
  have l2 : ((w.alloc (.cells #[.int .i64 z, .int .i64 d, .int .i64 s, .int .i64 l, .int .i64 a] 23)).alloc (.cells #[.int .i64 r.kd, .int .i64 r.sq, .int .i64 r.ep, .int .i64 r.ps, .int .i64 r.nm, .int .i64 r.i.z, .int .i64 r.i.wh, .slice r.i.A n r.i.c] 28)).heap.size = w.heap.size + 2 := by simp
  have o4 := ho.2.2.2.1
  have o5 := ho.2.2.2.2
  have hlE := encR_short hr ho.2.1
  have hsq : 0 ≤ r.sq ∧ r.sq ≤ 4294967295 := by
    rcases hr with ⟨-, h, -⟩ | ⟨h, -⟩ | ⟨h, -⟩
    · simp only [RcR.d] at h
      omega
    · exact h.1
    · exact h.1
  have hm := gmt.mul_le (i := cp) (n := 1) (p := l) (P := 30) (by have := hs.1; omega) (by have := hs.1; omega) (by omega) (by omega)
  obtain ⟨h1, h3⟩ := id hs
  have HB := Lib.hid (bytes_c z d s l a r n ((w.alloc (.cells #[.int .i64 z, .int .i64 d, .int .i64 s, .int .i64 l, .int .i64 a] 23)).alloc (.cells #[.int .i64 r.kd, .int .i64 r.sq, .int .i64 r.ep, .int .i64 r.ps, .int .i64 r.nm, .int .i64 r.i.z, .int .i64 r.i.wh, .slice r.i.A n r.i.c] 28)) ho (hx.next hw) hn hr)
  have HL := Lib.hid fun W => gmt.log_at z d s l a cp sl (a + cp * l + sl) 0 W ho ⟨fun _ => ⟨rfl, rfl⟩, fun h => absurd ⟨by omega, by omega⟩ h⟩
  have hcell : ((cellN l a cp sl : Nat) : Int) = a + cp * l + sl := by unfold cellN; omega
  obtain ⟨u, hu⟩ : ∃ u : Int, u = a + cp * l + sl := ⟨_, rfl⟩
  have hu1 : 0 ≤ u ∧ u ≤ 65535 := by omega
  rw [← hu] at HL
  rw [show cellN l a cp sl = u.toNat by unfold cellN; rw [hu]]
  generalize encR r.d = E at *
  obtain ⟨m, hmE⟩ : ∃ m, E.length = m := ⟨_, rfl⟩
  have hos : sel.OkS u r.sq := by unfold sel.OkS; omega
  have hm96 : m ≤ 96 := by omega
  have HM := Lib.hid fun (W : World) (X : Option Addr) (x base : Nat) (hown : Own W base 5 (.slice X m x) E) => make_own u r.sq X m x base E W hos hmE hm96 hown
  generalize sel.enc u.toNat r.sq.toNat E = F at *
  unfold BytR at HB
  rw [hmE] at HB
  clear s1 hx2 hx hn ho hr hs hm h1 h3 hcell hu hu1 hsq hlE o4 o5 hmE hos hm96
  go_enter Try.func14, Try.ntmps14
  go_upto_region 1 with fail
  generalize (w.alloc (.cells #[.int .i64 z, .int .i64 d, .int .i64 s, .int .i64 l, .int .i64 a] 23)).alloc (.cells #[.int .i64 r.kd, .int .i64 r.sq, .int .i64 r.ep, .int .i64 r.ps, .int .i64 r.nm, .int .i64 r.i.z, .int .i64 r.i.wh, .slice r.i.A n r.i.c] 28) = w0 at *
  obtain ⟨g0, g1, g2, g3, g4⟩ := id GG
  obtain ⟨r0, r1, r2, r3, r4, r5, r6, r7⟩ := id RR
  go_upto_region 4 with (go_at_call 11; (with_reducible refine (HB.out).mono ?_); rintro e w2 ⟨⟨X, x, rfl, hown⟩, hb2⟩)
  have G2 := GG.keep hb2 (by omega)
  have R2 := RR.keep hb2 (by omega)
  have lw := hb2.size
  clear g0 g1 g2 g3 g4 r0 r1 r2 r3 r4 r5 r6 r7 GG RR
  obtain ⟨g0, g1, g2, g3, g4⟩ := id G2
  go_upto_region 7 with (go_at_call 42; (with_reducible refine (HL.out _).mono ?_); rintro e w3 ⟨rfl, hb3⟩)
  have R3 := R2.keep hb3 (by omega)
  have hown3 := hown.below hb3
  have hw3 := bt (bt hw hb2) hb3
  clear g0 g1 g2 g3 g4 G2 R2 hown
  obtain ⟨r0, r1, r2, r3, r4, r5, r6, r7⟩ := id R3
  go_wp2_with (go_at_call 43; (with_reducible refine (HM.out _ _ _ _ hown3).mono ?_); rintro e w4 ⟨⟨v, rfl, hown4⟩, hb4⟩)
  go_ret2
  obtain ⟨A4, c4, rfl, -⟩ := hown4.form
  exact ⟨⟨_, _, rfl, hown4.less hw3.size⟩, bt hw3 hb4⟩
set_option maxRecDepth 100000 in
set_option maxHeartbeats 8000000 in
theorem cell_no_c (z d s l a : Int) (cp sl : Int) (r : RcR) (n : Nat) (w : World) (hno : ¬ ((Ok z d s l a ∧ RecOk z d r.d) ∧ SlotOk l cp sl)) (hx : BIn w w.heap.size r.i) (hn : r.i.l.length = n) (hn1 : n ≤ 1048576) :
    Calls Try.prog 14 #[.agg #[.int .i64 z, .int .i64 d, .int .i64 s, .int .i64 l, .int .i64 a], .agg #[.int .i64 r.kd, .int .i64 r.sq, .int .i64 r.ep, .int .i64 r.ps, .int .i64 r.nm, .int .i64 r.i.z, .int .i64 r.i.wh, .slice r.i.A n r.i.c], .int .i64 cp, .int .i64 sl] w fun e w' => tbl.NonE 1 e ∧ Below w.heap.size w w' := by
  have s1 : (w.alloc (.cells #[.int .i64 z, .int .i64 d, .int .i64 s, .int .i64 l, .int .i64 a] 23)).heap.size = w.heap.size + 1 := by simp
  have hx2 := bl (w.alloc (.cells #[.int .i64 z, .int .i64 d, .int .i64 s, .int .i64 l, .int .i64 a] 23)) (.cells #[.int .i64 r.kd, .int .i64 r.sq, .int .i64 r.ep, .int .i64 r.ps, .int .i64 r.nm, .int .i64 r.i.z, .int .i64 r.i.wh, .slice r.i.A n r.i.c] 28)
  have GG := (g5_new w z d s l a).keep hx2 (by omega)
  have RR := c8_new (w.alloc (.cells #[.int .i64 z, .int .i64 d, .int .i64 s, .int .i64 l, .int .i64 a] 23)) (.int .i64 r.kd) (.int .i64 r.sq) (.int .i64 r.ep) (.int .i64 r.ps) (.int .i64 r.nm) (.int .i64 r.i.z) (.int .i64 r.i.wh) (.slice r.i.A n r.i.c) 28
  rw [s1] at RR
  have hw := kal (bl w (.cells #[.int .i64 z, .int .i64 d, .int .i64 s, .int .i64 l, .int .i64 a] 23)) (.cells #[.int .i64 r.kd, .int .i64 r.sq, .int .i64 r.ep, .int .i64 r.ps, .int .i64 r.nm, .int .i64 r.i.z, .int .i64 r.i.wh, .slice r.i.A n r.i.c] 28)
  have l2 : ((w.alloc (.cells #[.int .i64 z, .int .i64 d, .int .i64 s, .int .i64 l, .int .i64 a] 23)).alloc (.cells #[.int .i64 r.kd, .int .i64 r.sq, .int .i64 r.ep, .int .i64 r.ps, .int .i64 r.nm, .int .i64 r.i.z, .int .i64 r.i.wh, .slice r.i.A n r.i.c] 28)).heap.size = w.heap.size + 2 := by simp
  by_cases hgr : Ok z d s l a ∧ RecOk z d r.d
  · obtain ⟨ho, hr⟩ := id hgr
    have HB := Lib.hid (bytes_c z d s l a r n ((w.alloc (.cells #[.int .i64 z, .int .i64 d, .int .i64 s, .int .i64 l, .int .i64 a] 23)).alloc (.cells #[.int .i64 r.kd, .int .i64 r.sq, .int .i64 r.ep, .int .i64 r.ps, .int .i64 r.nm, .int .i64 r.i.z, .int .i64 r.i.wh, .slice r.i.A n r.i.c] 28)) ho (hx.next hw) hn hr)
    have HL := Lib.hid fun W => gmt.log_at z d s l a cp sl 0 1 W ho ⟨fun h => absurd ⟨hgr, by have := h.1; omega, by omega, by omega⟩ hno, fun _ => ⟨rfl, rfl⟩⟩
    generalize encR r.d = E at *
    unfold BytR at HB
    clear s1 hx2 hx hn ho hr hno hgr
    go_enter Try.func14, Try.ntmps14
    go_upto_region 1 with fail
    generalize (w.alloc (.cells #[.int .i64 z, .int .i64 d, .int .i64 s, .int .i64 l, .int .i64 a] 23)).alloc (.cells #[.int .i64 r.kd, .int .i64 r.sq, .int .i64 r.ep, .int .i64 r.ps, .int .i64 r.nm, .int .i64 r.i.z, .int .i64 r.i.wh, .slice r.i.A n r.i.c] 28) = w0 at *
    obtain ⟨g0, g1, g2, g3, g4⟩ := id GG
    obtain ⟨r0, r1, r2, r3, r4, r5, r6, r7⟩ := id RR
    go_upto_region 4 with (go_at_call 11; (with_reducible refine (HB.out).mono ?_); rintro e w2 ⟨⟨X, x, rfl, hown⟩, hb2⟩)
    have G2 := GG.keep hb2 (by omega)
    clear g0 g1 g2 g3 g4 r0 r1 r2 r3 r4 r5 r6 r7 GG RR
    obtain ⟨g0, g1, g2, g3, g4⟩ := id G2
    go_wp2_with (go_at_call 42; (with_reducible refine (HL.out _).mono ?_); rintro e w3 ⟨rfl, hb3⟩)
    go_ret2
    exact ⟨⟨none, 0, rfl⟩, bt (bt hw hb2) hb3⟩
  · have HB := Lib.hid (bytes_no_c z d s l a r n ((w.alloc (.cells #[.int .i64 z, .int .i64 d, .int .i64 s, .int .i64 l, .int .i64 a] 23)).alloc (.cells #[.int .i64 r.kd, .int .i64 r.sq, .int .i64 r.ep, .int .i64 r.ps, .int .i64 r.nm, .int .i64 r.i.z, .int .i64 r.i.wh, .slice r.i.A n r.i.c] 28)) hgr (hx.next hw) hn hn1)
    unfold tbl.NonE at HB
    clear s1 hx2 hx hn hno hgr
    go_enter Try.func14, Try.ntmps14
    go_upto_region 1 with fail
    generalize (w.alloc (.cells #[.int .i64 z, .int .i64 d, .int .i64 s, .int .i64 l, .int .i64 a] 23)).alloc (.cells #[.int .i64 r.kd, .int .i64 r.sq, .int .i64 r.ep, .int .i64 r.ps, .int .i64 r.nm, .int .i64 r.i.z, .int .i64 r.i.wh, .slice r.i.A n r.i.c] 28) = w0 at *
    obtain ⟨g0, g1, g2, g3, g4⟩ := id GG
    obtain ⟨r0, r1, r2, r3, r4, r5, r6, r7⟩ := id RR
    go_wp2_with (go_at_call 11; (with_reducible refine (HB.out).mono ?_); rintro e w2 ⟨⟨X, x, rfl⟩, hb2⟩)
    go_ret2
    exact ⟨⟨none, 0, rfl⟩, bt hw hb2⟩
end Go.Proofs.Ytplhdnhigboeaaa.lrc
