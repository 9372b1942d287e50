/-
  The developers' own behind and write of package scan. Conditions: a right geometry, a right record, a slot of a copy.
  What txn of package scan has in memory while it reads: the transaction, the record, the images, the writes. Conditions: none.
  The developers' txn of package scan, by what pair.Look answers. Conditions: each theorem's own.
  The developers' Scan, by what anchor.Check and txn answer. Conditions: each theorem's own.
  What the laws of package scan ask of its function is so of the developers' code, in every world in which the tables lie as their text lays them. Conditions: none but that.
-/
import Derived.Test.YtbfdpibjicjagaaGreatDoorGSb
import Derived.Test.YtbfdpibjicjagaaGreatDoorGRy
import Derived.Test.YtbfdpibjicjagaaGreatDoorGSa
import Derived.Test.YtbfdpibjicjagaaGreatDoorGPy
import Derived.BigQuiet
import Derived.Test.YtbfdpibjicjagaaGreatDoorGAu
set_option maxHeartbeats 8000000
set_option maxRecDepth 100000
namespace Go.Proofs.YtbfdpibjicjagaaGreatDoor.scn
open Go.RowKit Go.Lib
open Go.Proofs.YtbfdpibjicjagaaGreatDoor.gmt (Ok)
open Go.Proofs.YtbfdpibjicjagaaGreatDoor.anc (AV bl kal kst ks bm ka)
open Go.Proofs.YtbfdpibjicjagaaGreatDoor.lrc (Rcd RcR C8 c8_new RecOk SlotOk cellN encR BytR)
open Go.Proofs.YtbfdpibjicjagaaGreatDoor.nwt (GV GotR)
structure R14 (W : World) (g : Nat) (z d s l a : Int) (x : AV) (fA : Option Addr) (fc : Nat) (sA : Option Addr) (sc n m : Nat) : Prop where
 c0 : W.cell? ⟨g, 0, none⟩ = some (.int .i64 z)
 c1 : W.cell? ⟨g, 1, none⟩ = some (.int .i64 d)
 c2 : W.cell? ⟨g, 2, none⟩ = some (.int .i64 s)
 c3 : W.cell? ⟨g, 3, none⟩ = some (.int .i64 l)
 c4 : W.cell? ⟨g, 4, none⟩ = some (.int .i64 a)
 c5 : W.cell? ⟨g, 5, none⟩ = some (.int .i64 x.gen)
 c6 : W.cell? ⟨g, 6, none⟩ = some (.int .i64 x.ep)
 c7 : W.cell? ⟨g, 7, none⟩ = some (.int .i64 x.pos)
 c8 : W.cell? ⟨g, 8, none⟩ = some (.int .i64 x.seq)
 c9 : W.cell? ⟨g, 9, none⟩ = some (.int .i64 x.last)
 c10 : W.cell? ⟨g, 10, none⟩ = some (.string x.lab)
 c11 : W.cell? ⟨g, 11, none⟩ = some (.slice x.HA x.hs.length x.hc)
 c12 : W.cell? ⟨g, 12, none⟩ = some (.slice fA n fc)
 c13 : W.cell? ⟨g, 13, none⟩ = some (.slice sA m sc)
theorem r14_new (w : World) (z d s l a : Int) (x : AV) (fA : Option Addr) (fc : Nat) (sA : Option Addr) (sc n m : Nat) : R14 (w.alloc (.cells #[.int .i64 z, .int .i64 d, .int .i64 s, .int .i64 l, .int .i64 a, .int .i64 x.gen, .int .i64 x.ep, .int .i64 x.pos, .int .i64 x.seq, .int .i64 x.last, .string x.lab, .slice x.HA x.hs.length x.hc, .slice fA n fc, .slice sA m sc] 72)) w.heap.size z d s l a x fA fc sA sc n m := by
 have h := heap_alloc_new w (.cells #[.int .i64 z, .int .i64 d, .int .i64 s, .int .i64 l, .int .i64 a, .int .i64 x.gen, .int .i64 x.ep, .int .i64 x.pos, .int .i64 x.seq, .int .i64 x.last, .string x.lab, .slice x.HA x.hs.length x.hc, .slice fA n fc, .slice sA m sc] 72)
 constructor <;> (rw [cell_of_row _ _ _ _ _ _ h]; rfl)
theorem R14.keep {W W' : World} {B g : Nat} {z d s l a : Int} {x : AV} {fA : Option Addr} {fc : Nat} {sA : Option Addr} {sc n m : Nat} (h : R14 W g z d s l a x fA fc sA sc n m) (hb : Below B W W') (hg : g < B) : R14 W' g z d s l a x fA fc sA sc n m :=
 ⟨ks hb hg h.c0, ks hb hg h.c1, ks hb hg h.c2, ks hb hg h.c3, ks hb hg h.c4, ks hb hg h.c5, ks hb hg h.c6, ks hb hg h.c7, ks hb hg h.c8, ks hb hg h.c9, ks hb hg h.c10, ks hb hg h.c11, ks hb hg h.c12, ks hb hg h.c13⟩
theorem R14.grown {W W' : World} {g : Nat} {row : Option Nat} {z d s l a : Int} {x : AV} {fA : Option Addr} {fc : Nat} {sA : Option Addr} {sc n m : Nat} (h : R14 W g z d s l a x fA fc sA sc n m) (hg : W.grownBy W' row) (hr : some g ≠ row) : R14 W' g z d s l a x fA fc sA sc n m :=
 ⟨hg.cell h.c0 hr, hg.cell h.c1 hr, hg.cell h.c2 hr, hg.cell h.c3 hr, hg.cell h.c4 hr, hg.cell h.c5 hr, hg.cell h.c6 hr, hg.cell h.c7 hr, hg.cell h.c8 hr, hg.cell h.c9 hr, hg.cell h.c10 hr, hg.cell h.c11 hr, hg.cell h.c12 hr, hg.cell h.c13 hr⟩
theorem behind_c (z d s l a : Int) (x : AV) (fA : Option Addr) (fc : Nat) (sA : Option Addr) (sc n m : Nat) (p k q : Int) (w : World) (hl : 14 ≤ l ∧ l ≤ 30) (hp : 0 ≤ p ∧ p ≤ 1000) (hk : 0 ≤ k ∧ k ≤ 1000) (hq : (p + k) % l = q) :
  Calls Tryz.prog 31 #[.agg #[.int .i64 z, .int .i64 d, .int .i64 s, .int .i64 l, .int .i64 a, .int .i64 x.gen, .int .i64 x.ep, .int .i64 x.pos, .int .i64 x.seq, .int .i64 x.last, .string x.lab, .slice x.HA x.hs.length x.hc, .slice fA n fc, .slice sA m sc], .int .i64 p, .int .i64 k] w fun e w' => e = .returned (.int .i64 q) ∧ Below w.heap.size w w' := by
 have RR := r14_new w z d s l a x fA fc sA sc n m
 have hw := bl w (.cells #[.int .i64 z, .int .i64 d, .int .i64 s, .int .i64 l, .int .i64 a, .int .i64 x.gen, .int .i64 x.ep, .int .i64 x.pos, .int .i64 x.seq, .int .i64 x.last, .string x.lab, .slice x.HA x.hs.length x.hc, .slice fA n fc, .slice sA m sc] 72)
 have u1 : IntKind.i64.wrap (p + k) = p + k := IntWalk.i64_in _ (by omega)
 have q1 : ¬ l = 0 := by omega
 have q3 : (l == 0) = false := beq_eq_false_iff_ne.2 q1
 have HQ := Lib.hid (show (p + k).tmod l = q by rw [Int.tmod_eq_emod_of_nonneg (by omega)]; exact hq)
 have hq2 : 0 ≤ q ∧ q < l := by rw [← hq]; exact ⟨Int.emod_nonneg _ q1, Int.emod_lt_of_pos _ (by omega)⟩
 have q4 := HQ.out
 clear hq
 go_enter Tryz.func31, Tryz.ntmps31
 go_upto_region 1 with fail
 generalize w.alloc (.cells #[.int .i64 z, .int .i64 d, .int .i64 s, .int .i64 l, .int .i64 a, .int .i64 x.gen, .int .i64 x.ep, .int .i64 x.pos, .int .i64 x.seq, .int .i64 x.last, .string x.lab, .slice x.HA x.hs.length x.hc, .slice fA n fc, .slice sA m sc] 72) = w0 at *
 have r3 := RR.c3
 go_wp2_with fail
 go_ret
 exact ⟨rfl, hw⟩
def WriA (base : Nat) (ad : Int) (b : List UInt8) (e : Ending) (w' : World) : Prop := ∃ (X : Option Addr) (c : Nat), e = .returned (.tuple #[.agg #[.int .i64 ad, .slice X b.length c], .int .i64 0]) ∧ Own w' base 5 (.slice X b.length c) b
theorem own_2S {w : World} {base g : Nat} {e : TypeId} {v : Value} {l : List UInt8} (h : Own w base e v l) (hg : g < base) (x y : Value) : Own ((w.setCell ⟨g, 0, none⟩ x).setCell ⟨g, 1, none⟩ y) base e v l := own_cS (own_cS h hg x) hg y
theorem below_2S {w w' : World} {B q : Nat} (h : Below B w w') (hq : B ≤ q) (x y : Value) : Below B w ((w'.setCell ⟨q, 0, none⟩ x).setCell ⟨q, 1, none⟩ y) :=
 (h.setCell (p := ⟨q, 0, none⟩) hq x).setCell (p := ⟨q, 1, none⟩) hq y
structure Zwo (W : World) (g : Nat) (a0 a1 : Value) : Prop where
 c0 : W.cell? ⟨g, 0, none⟩ = some a0
 c1 : W.cell? ⟨g, 1, none⟩ = some a1
 f0 : W.frozen? ⟨g, 0, none⟩ = false
 f1 : W.frozen? ⟨g, 1, none⟩ = false
theorem zwo_new (w : World) (a0 a1 : Value) (t : TypeId) : Zwo (w.alloc (.cells #[a0, a1] t)) w.heap.size a0 a1 := by
 have h := heap_alloc_new w (.cells #[a0, a1] t)
 constructor <;> first | (rw [cell_of_row _ _ _ _ _ _ h]; rfl) | exact World.frozen?_alloc_new _ _ _ _
theorem Zwo.keep {W W' : World} {B g : Nat} {a0 a1 : Value} (h : Zwo W g a0 a1) (hb : Below B W W') (hg : g < B) : Zwo W' g a0 a1 :=
 ⟨(hb.cell (p := ⟨g, 0, none⟩) hg).trans h.c0, (hb.cell (p := ⟨g, 1, none⟩) hg).trans h.c1, (hb.frozen (p := ⟨g, 0, none⟩) hg).trans h.f0, (hb.frozen (p := ⟨g, 1, none⟩) hg).trans h.f1⟩
theorem Zwo.all {W : World} {g : Nat} {a0 a1 : Value} (h : Zwo W g a0 a1) (b0 b1 : Value) : Zwo ((W.setCell ⟨g, 0, none⟩ b0).setCell ⟨g, 1, none⟩ b1) g b0 b1 := by
 refine ⟨?_, ?_, ?_, ?_⟩
 ·rw [World.cell?_setCell_other _ _ _ _ (by simp)]; exact World.cell?_setCell_same _ _ _ h.c0
 ·exact World.cell?_setCell_same _ _ _ (by rw [World.cell?_setCell_other _ _ _ _ (by simp)]; exact h.c1)
 ·rw [World.frozen?_setCell, World.frozen?_setCell]; exact h.f0
 ·rw [World.frozen?_setCell, World.frozen?_setCell]; exact h.f1
theorem write_c (z d s l a : Int) (x : AV) (fA : Option Addr) (fc : Nat) (sA : Option Addr) (sc n m : Nat) (r : RcR) (q : Nat) (cp sl : Int) (w : World) (ho : Ok z d s l a) (hr : img.BIn w w.heap.size r.i) (hq : r.i.l.length = q) (hro : RecOk z d r.d) (hs : SlotOk l cp sl) :
  Calls Tryz.prog 51 #[.agg #[.int .i64 z, .int .i64 d, .int .i64 s, .int .i64 l, .int .i64 a, .int .i64 x.gen, .int .i64 x.ep, .int .i64 x.pos, .int .i64 x.seq, .int .i64 x.last, .string x.lab, .slice x.HA x.hs.length x.hc, .slice fA n fc, .slice sA m sc], .agg #[.int .i64 r.kd, .int .i64 r.sq, .int .i64 r.ep, .int .i64 r.ps, .int .i64 r.nm, .int .i64 r.i.z, .int .i64 r.i.wh, .slice r.i.A q r.i.c], .int .i64 cp, .int .i64 sl] w fun e w' => WriA w.heap.size (a + cp * l + sl) (sel.enc (cellN l a cp sl) r.sq.toNat (encR r.d)) e w' ∧ Below w.heap.size w w' := by
 have s1 : (w.alloc (.cells #[.int .i64 z, .int .i64 d, .int .i64 s, .int .i64 l, .int .i64 a, .int .i64 x.gen, .int .i64 x.ep, .int .i64 x.pos, .int .i64 x.seq, .int .i64 x.last, .string x.lab, .slice x.HA x.hs.length x.hc, .slice fA n fc, .slice sA m sc] 72)).heap.size = w.heap.size + 1 := by simp
 have s2 : ((w.alloc (.cells #[.int .i64 z, .int .i64 d, .int .i64 s, .int .i64 l, .int .i64 a, .int .i64 x.gen, .int .i64 x.ep, .int .i64 x.pos, .int .i64 x.seq, .int .i64 x.last, .string x.lab, .slice x.HA x.hs.length x.hc, .slice fA n fc, .slice sA m sc] 72)).alloc (.cells #[.int .i64 r.kd, .int .i64 r.sq, .int .i64 r.ep, .int .i64 r.ps, .int .i64 r.nm, .int .i64 r.i.z, .int .i64 r.i.wh, .slice r.i.A q r.i.c] 83)).heap.size = w.heap.size + 2 := by simp
 have k1 := bl ((w.alloc (.cells #[.int .i64 z, .int .i64 d, .int .i64 s, .int .i64 l, .int .i64 a, .int .i64 x.gen, .int .i64 x.ep, .int .i64 x.pos, .int .i64 x.seq, .int .i64 x.last, .string x.lab, .slice x.HA x.hs.length x.hc, .slice fA n fc, .slice sA m sc] 72)).alloc (.cells #[.int .i64 r.kd, .int .i64 r.sq, .int .i64 r.ep, .int .i64 r.ps, .int .i64 r.nm, .int .i64 r.i.z, .int .i64 r.i.wh, .slice r.i.A q r.i.c] 83)) (.cells #[.int .i64 0, .slice none 0 0] 56)
 have RR := ((r14_new w z d s l a x fA fc sA sc n m).keep (bl (w.alloc (.cells #[.int .i64 z, .int .i64 d, .int .i64 s, .int .i64 l, .int .i64 a, .int .i64 x.gen, .int .i64 x.ep, .int .i64 x.pos, .int .i64 x.seq, .int .i64 x.last, .string x.lab, .slice x.HA x.hs.length x.hc, .slice fA n fc, .slice sA m sc] 72)) (.cells #[.int .i64 r.kd, .int .i64 r.sq, .int .i64 r.ep, .int .i64 r.ps, .int .i64 r.nm, .int .i64 r.i.z, .int .i64 r.i.wh, .slice r.i.A q r.i.c] 83)) (by omega)).keep k1 (by omega)
 have CC := (c8_new (w.alloc (.cells #[.int .i64 z, .int .i64 d, .int .i64 s, .int .i64 l, .int .i64 a, .int .i64 x.gen, .int .i64 x.ep, .int .i64 x.pos, .int .i64 x.seq, .int .i64 x.last, .string x.lab, .slice x.HA x.hs.length x.hc, .slice fA n fc, .slice sA m sc] 72)) (.int .i64 r.kd) (.int .i64 r.sq) (.int .i64 r.ep) (.int .i64 r.ps) (.int .i64 r.nm) (.int .i64 r.i.z) (.int .i64 r.i.wh) (.slice r.i.A q r.i.c) 83).keep k1 (by omega)
 have ZZ := zwo_new ((w.alloc (.cells #[.int .i64 z, .int .i64 d, .int .i64 s, .int .i64 l, .int .i64 a, .int .i64 x.gen, .int .i64 x.ep, .int .i64 x.pos, .int .i64 x.seq, .int .i64 x.last, .string x.lab, .slice x.HA x.hs.length x.hc, .slice fA n fc, .slice sA m sc] 72)).alloc (.cells #[.int .i64 r.kd, .int .i64 r.sq, .int .i64 r.ep, .int .i64 r.ps, .int .i64 r.nm, .int .i64 r.i.z, .int .i64 r.i.wh, .slice r.i.A q r.i.c] 83)) (.int .i64 0) (.slice none 0 0) 56
 rw [s1] at CC
 rw [s2] at ZZ
 have hw := kal (kal (bl w (.cells #[.int .i64 z, .int .i64 d, .int .i64 s, .int .i64 l, .int .i64 a, .int .i64 x.gen, .int .i64 x.ep, .int .i64 x.pos, .int .i64 x.seq, .int .i64 x.last, .string x.lab, .slice x.HA x.hs.length x.hc, .slice fA n fc, .slice sA m sc] 72)) (.cells #[.int .i64 r.kd, .int .i64 r.sq, .int .i64 r.ep, .int .i64 r.ps, .int .i64 r.nm, .int .i64 r.i.z, .int .i64 r.i.wh, .slice r.i.A q r.i.c] 83)) (.cells #[.int .i64 0, .slice none 0 0] 56)
 have l0 : w.heap.size + 2 < (((w.alloc (.cells #[.int .i64 z, .int .i64 d, .int .i64 s, .int .i64 l, .int .i64 a, .int .i64 x.gen, .int .i64 x.ep, .int .i64 x.pos, .int .i64 x.seq, .int .i64 x.last, .string x.lab, .slice x.HA x.hs.length x.hc, .slice fA n fc, .slice sA m sc] 72)).alloc (.cells #[.int .i64 r.kd, .int .i64 r.sq, .int .i64 r.ep, .int .i64 r.ps, .int .i64 r.nm, .int .i64 r.i.z, .int .i64 r.i.wh, .slice r.i.A q r.i.c] 83)).alloc (.cells #[.int .i64 0, .slice none 0 0] 56)).heap.size := by simp
 have HL := Lib.hid (fun (W : World) => gmt.log_at z d s l a cp sl (a + cp * l + sl) 0 W ho ⟨fun _ => ⟨rfl, rfl⟩, fun h => absurd ⟨⟨by rcases hs.1 with h | h <;> omega, by rcases hs.1 with h | h <;> omega⟩, hs.2.1, by have := hs.2.2; omega⟩ h⟩)
 obtain ⟨E, hE⟩ : ∃ E, E = sel.enc (cellN l a cp sl) r.sq.toNat (encR r.d) := ⟨_, rfl⟩
 have HC := Lib.hid (show ∀ W, Below w.heap.size w W → Calls Tryz.prog 69 #[.agg #[.int .i64 z, .int .i64 d, .int .i64 s, .int .i64 l, .int .i64 a], .agg #[.int .i64 r.kd, .int .i64 r.sq, .int .i64 r.ep, .int .i64 r.ps, .int .i64 r.nm, .int .i64 r.i.z, .int .i64 r.i.wh, .slice r.i.A q r.i.c], .int .i64 cp, .int .i64 sl] W fun e w' => BytR W.heap.size E e w' ∧ Below W.heap.size W w' from fun W hW => by
  rw [hE]
  exact lrc.cell_c z d s l a cp sl r q W ho (hr.next hW) hq hro hs)
 rw [← hE]
 clear s1 s2 k1 ho hr hq hro hs hE
 go_enter Tryz.func51, Tryz.ntmps51
 go_upto_region 1 with fail
 generalize ((w.alloc (.cells #[.int .i64 z, .int .i64 d, .int .i64 s, .int .i64 l, .int .i64 a, .int .i64 x.gen, .int .i64 x.ep, .int .i64 x.pos, .int .i64 x.seq, .int .i64 x.last, .string x.lab, .slice x.HA x.hs.length x.hc, .slice fA n fc, .slice sA m sc] 72)).alloc (.cells #[.int .i64 r.kd, .int .i64 r.sq, .int .i64 r.ep, .int .i64 r.ps, .int .i64 r.nm, .int .i64 r.i.z, .int .i64 r.i.wh, .slice r.i.A q r.i.c] 83)).alloc (.cells #[.int .i64 0, .slice none 0 0] 56) = w0 at *
 obtain ⟨r0, r1, r2, r3, r4, -⟩ := id RR
 go_upto_region 2 with (go_at_call 66; (with_reducible refine (HL.out w0).mono ?_); rintro e w1 ⟨rfl, hb1⟩)
 clear r0 r1 r2 r3 r4
 have R1 := RR.keep hb1 (by omega)
 have C1 := CC.keep hb1 (by omega)
 have Z1 := ZZ.keep hb1 (by omega)
 have hw1 := bt hw hb1
 have l1 := Nat.lt_of_lt_of_le l0 hb1.size
 clear RR CC ZZ hw hb1 l0
 obtain ⟨r0, r1, r2, r3, r4, -⟩ := id R1
 obtain ⟨p0, p1, p2, p3, p4, p5, p6, p7⟩ := id C1
 go_upto_region 5 with (go_at_call 69; (with_reducible refine (HC.out w1 hw1).mono ?_); rintro e w2 ⟨⟨X, c, rfl, hX⟩, hb2⟩)
 have Z2 := Z1.keep hb2 l1
 have hw2 := bt hw1 hb2
 obtain ⟨z0, z1, f0, f1⟩ := id Z2
 have K := Z2.all (.int .i64 (a + cp * l + sl)) (.slice X E.length c)
 go_wp2_with fail
 exact bodyPost_ret (v := .tuple #[.agg #[.int .i64 (a + cp * l + sl), .slice X E.length c], .int .i64 0]) (by simp [results, Tryz.results51, go_sem, K.c0, K.c1]) rfl ⟨⟨X, c, rfl, (own_2S (g := w.heap.size + 2) hX l1 _ _).less hw1.size⟩, below_2S hw2 (by omega) _ _⟩
end Go.Proofs.YtbfdpibjicjagaaGreatDoor.scn
namespace Go.Proofs.YtbfdpibjicjagaaGreatDoor.scn
open Go.RowKit Go.Lib
open Go.Proofs.YtbfdpibjicjagaaGreatDoor.anc (bl kal kst ks bm ka row_apart row_form)
open Go.Proofs.YtbfdpibjicjagaaGreatDoor.lrc (Rcd C8 c8_new)
open Go.Proofs.YtbfdpibjicjagaaGreatDoor.nwt (GV GotR gvs gds)
open Go.Proofs.YtbfdpibjicjagaaGreatDoor.rng (Fou OwnI.kept)
open Go.Proofs.YtbfdpibjicjagaaGreatDoor.img
theorem img_wri : 81 ≠ 56 := by decide
theorem int_wri : 3 ≠ 56 := by decide
theorem int_img : 3 ≠ 81 := by decide
theorem wri_img : 56 ≠ 81 := by decide
structure TM (w : World) (B gT g : Nat) (sq ps nm : Int) (R : Rcd) (X : Option Addr) (xc : Nat) (Y : Option Addr) (yc : Nat) (V : List Int) (iv : Value) (irs : List ImR) (v : Value) (wrs : List GotR) : Prop where
 P : Fou w gT (.int .i64 sq) (.int .i64 ps) (.int .i64 nm) iv
 C : C8 w g (.int .i64 R.kd) (.int .i64 R.sq) (.int .i64 R.ep) (.int .i64 R.ps) (.int .i64 R.nm) (.int .i64 R.z) (.int .i64 R.wh) (.slice X R.l.length xc)
 oX : Own w B 5 (.slice X R.l.length xc) R.l
 oY : OwnV w B 3 (.slice Y V.length yc) (ints V)
 oI : OwnI w B iv irs
 oW : OwnWr w B v wrs
 lt : gT < B
 le : B ≤ g
 nw : v.ownBlock ≠ some g
 ni : iv.ownBlock ≠ some g
section
variable {w w' : World} {B gT g : Nat} {sq ps nm : Int} {R : Rcd} {X : Option Addr} {xc : Nat} {Y : Option Addr} {yc : Nat} {V : List Int} {iv : Value} {irs : List ImR} {v : Value} {wrs : List GotR}
theorem TM.glt (h : TM w B gT g sq ps nm R X xc Y yc V iv irs v wrs) : g < w.heap.size := World.block_lt_of_cell? w _ h.C.c0
theorem TM.below (h : TM w B gT g sq ps nm R X xc Y yc V iv irs v wrs) (hb : Below w.heap.size w w') : TM w' B gT g sq ps nm R X xc Y yc V iv irs v wrs :=
 ⟨h.P.keep hb h.P.lt, h.C.keep hb h.glt, h.oX.below hb, h.oY.below hb, h.oI.below hb, h.oW.below hb, h.lt, h.le, h.nw, h.ni⟩
theorem TM.growW {v' : Value} {r : GotR} (h : TM w B gT g sq ps nm R X xc Y yc V iv irs v wrs) (hp : Own w B 5 (.slice r.A r.l.length r.c) r.l) (h' : w'.ownsRow B 56 2 v' (wrs.length + 1) (gvs wrs ++ r.vs)) (hg : w.grownBy w' v.ownBlock) (hd : v'.ownBlock = v.ownBlock ∨ v'.ownBlock = some w.heap.size) : TM w' B gT g sq ps nm R X xc Y yc V iv irs v' (wrs ++ [r]) :=
 ⟨h.P.grown hg fun e => by have := h.oW.far gT e.symm; have := h.lt; omega,
  c8_grown h.C hg fun e => h.nw e.symm,
  h.oX.kept hg (row_apart h.oX h.oW.1 u8_wri),
  World.ownsRow.kept h.oY hg (row_apart h.oY h.oW.1 int_wri),
  OwnI.kept h.oI hg (row_apart h.oI.1 h.oW.1 img_wri) (fun r hr => row_apart (h.oI.2 r hr) h.oW.1 u8_wri),
  h.oW.more hg hp h', h.lt, h.le,
  fun e => by
  rcases hd with d | d
  ·exact h.nw (d ▸ e)
  ·rw [d] at e
   have := h.glt
   have : w.heap.size = g := Option.some.inj e
   omega, h.ni⟩
theorem TM.set2 (h : TM w B gT g sq ps nm R X xc Y yc V iv irs v wrs) (n : Int) : TM (w.setCell ⟨gT, 2, none⟩ (.int .i64 n)) B gT g sq ps n R X xc Y yc V iv irs v wrs := by
 have hne : gT ≠ g := by have := h.lt; have := h.le; omega
 have hb : Below gT w (w.setCell ⟨gT, 2, none⟩ (.int .i64 n)) := (Below.refl gT w).setCell (p := ⟨gT, 2, none⟩) (Nat.le_refl _) _
 have k : ∀ {o : Nat} {u : Value}, w.cell? ⟨g, o, none⟩ = some u → (w.setCell ⟨gT, 2, none⟩ (.int .i64 n)).cell? ⟨g, o, none⟩ = some u := fun q => by
  rw [World.cell?_setCell_other _ _ _ _ (by simp only [ne_eq, Addr.mk.injEq, not_and]; intro e; exact absurd e hne)]
  exact q
 exact ⟨h.P.set2 _, ⟨k h.C.c0, k h.C.c1, k h.C.c2, k h.C.c3, k h.C.c4, k h.C.c5, k h.C.c6, k h.C.c7⟩, own_cS h.oX h.lt _, ownsRow_setCell_other h.oY (fun e => by have := (World.ownsRow.lt h.oY gT e).1; have := h.lt; omega) _, h.oI.cell_set h.lt _, h.oW.cell_set h.lt _, h.lt, h.le, h.nw, h.ni⟩
theorem TM.growI {iv' : Value} {r : ImR} (h : TM w B gT g sq ps nm R X xc Y yc V iv irs v wrs) (hp : Own w B 5 (.slice r.A r.l.length r.c) r.l) (h' : w'.ownsRow B 81 3 iv' (irs.length + 1) (ivs irs ++ r.vs)) (hg : w.grownBy w' iv.ownBlock) (hd : iv'.ownBlock = iv.ownBlock ∨ iv'.ownBlock = some w.heap.size) : TM (w'.setCell ⟨gT, 3, none⟩ iv') B gT g sq ps nm R X xc Y yc V iv' (irs ++ [r]) v wrs := by
 have hfar : ∀ q, iv.ownBlock = some q → B ≤ q := fun q hq => (World.ownsRow.lt h.oI.1 q hq).1
 have hne : gT ≠ g := by have := h.lt; have := h.le; omega
 have k : ∀ {o : Nat} {u : Value}, w'.cell? ⟨g, o, none⟩ = some u → (w'.setCell ⟨gT, 3, none⟩ iv').cell? ⟨g, o, none⟩ = some u := fun q => by
  rw [World.cell?_setCell_other _ _ _ _ (by simp only [ne_eq, Addr.mk.injEq, not_and]; intro e; exact absurd e hne)]
  exact q
 have C := c8_grown h.C hg fun e => h.ni e.symm
 have P := h.P.grown hg fun e => by have := hfar gT e.symm; have := h.lt; omega
 have hY : w'.ownsRow B 3 1 (.slice Y V.length yc) (ints V).length (ints V) := World.ownsRow.kept h.oY hg (row_apart h.oY h.oI.1 int_img)
 have hW : OwnWr w' B v wrs := h.oW.kept hg (row_apart h.oW.1 h.oI.1 wri_img) (fun r hr => row_apart (h.oW.2 r hr) h.oI.1 u8_img)
 have hI := (h.oI.more hg hp h').cell_set (o := 3) h.lt iv'
 exact ⟨P.set3 _, ⟨k C.c0, k C.c1, k C.c2, k C.c3, k C.c4, k C.c5, k C.c6, k C.c7⟩, own_cS (h.oX.kept hg (row_apart h.oX h.oI.1 u8_img)) h.lt _, ownsRow_setCell_other hY (fun e => by have := (World.ownsRow.lt hY gT e).1; have := h.lt; omega) _, hI, hW.cell_set h.lt _, h.lt, h.le, h.nw, fun e => by
  rcases hd with d | d
  ·exact h.ni (d ▸ e)
  ·rw [d] at e
   have := h.glt
   have : w.heap.size = g := Option.some.inj e
   omega⟩
end
end Go.Proofs.YtbfdpibjicjagaaGreatDoor.scn
namespace Go.Proofs.YtbfdpibjicjagaaGreatDoor.scn
open Go.RowKit Go.Lib
open Go.Proofs.YtbfdpibjicjagaaGreatDoor.gmt (Ok)
open Go.Proofs.YtbfdpibjicjagaaGreatDoor.anc (AV bl kal kst ks bm ka row_apart row_form)
open Go.Proofs.YtbfdpibjicjagaaGreatDoor.lrc (Rcd RcR C8 c8_new Eig eig_new own_all below_all RecOk SlotOk cellN encR BytR)
open Go.Proofs.YtbfdpibjicjagaaGreatDoor.nwt (GV GotR gvs gds gds_append gds_length got_at)
open Go.Proofs.YtbfdpibjicjagaaGreatDoor.rng (Fou fou_new OwnI.kept)
open Go.Proofs.YtbfdpibjicjagaaGreatDoor.prr (LookO)
open Go.Proofs.YtbfdpibjicjagaaGreatDoor.img
def TxnA (base : Nat) (sq ps : Int) (t : TSt) (e : Ending) (w' : World) : Prop :=
 (t.how = 1 ∧ ∃ (IA : Option Addr) (ic : Nat) (irs : List ImR) (WA : Option Addr) (wk : Nat) (wrs : List GotR), e = .returned (.tuple #[.agg #[.int .i64 sq, .int .i64 ps, .int .i64 t.nm, .slice IA irs.length ic], .slice WA wrs.length wk, .int .i64 0]) ∧ ids irs = t.ims ∧ gds wrs = t.ws ∧ OwnI w' base (.slice IA irs.length ic) irs ∧ OwnWr w' base (.slice WA wrs.length wk) wrs ∧ irs.length ≤ 31 ∧ wrs.length ≤ 31) ∨
 (t.how = 2 ∧ e = .returned (.tuple #[.agg #[.int .i64 0, .int .i64 0, .int .i64 0, .slice none 0 0], .slice none 0 0, .int .i64 0])) ∨
 (t.how = 3 ∧ e = .returned (.tuple #[.agg #[.int .i64 0, .int .i64 0, .int .i64 0, .slice none 0 0], .slice none 0 0, .int .i64 12]))
theorem runT_step {L : Int → Int → Rcd × List Int × Int} {Wf : Int → Rcd → List Int → List (Int × List UInt8)} {k : Nat} {t : TSt} {R : Rcd} {V : List Int} {H : Int} (hk : k ≤ 30) (h1 : t.how = 1) (hc : k = 0 ∨ (k : Int) < t.nm) (hL : L (k : Int) t.nm = (R, V, H)) :
  runT L Wf (31 - k) (k : Int) t = if H = 1 then runT L Wf (31 - (k + 1)) ((k + 1 : Nat) : Int) ⟨R.nm, t.ims ++ imgO R, t.ws ++ Wf k R V, 1⟩ else ⟨t.nm, t.ims, t.ws, H⟩ := by
 obtain ⟨n, hn⟩ : ∃ n, 31 - k = n + 1 := ⟨30 - k, by omega⟩
 rw [hn, show 31 - (k + 1) = n by omega, runT, if_pos ⟨h1, by rcases hc with rfl | h; exact .inl rfl; exact .inr h⟩, hL]
 rfl
theorem runT_stop {L : Int → Int → Rcd × List Int × Int} {Wf : Int → Rcd → List Int → List (Int × List UInt8)} {k : Int} {t : TSt} (n : Nat) (hc : ¬ (k = 0 ∨ k < t.nm)) : runT L Wf n k t = t := by
 cases n with
 | zero => rfl
 | succ n => rw [runT, if_neg fun h => hc h.2]
theorem row_8 {W : World} {base g k n : Nat} {e : TypeId} {v : Value} {xs : List Value} (h : W.ownsRow base e k v n xs) (hg : v.ownBlock ≠ some g) (b0 b1 b2 b3 b4 b5 b6 b7 : Value) : ((((((((W.setCell ⟨g, 0, none⟩ b0).setCell ⟨g, 1, none⟩ b1).setCell ⟨g, 2, none⟩ b2).setCell ⟨g, 3, none⟩ b3).setCell ⟨g, 4, none⟩ b4).setCell ⟨g, 5, none⟩ b5).setCell ⟨g, 6, none⟩ b6).setCell ⟨g, 7, none⟩ b7).ownsRow base e k v n xs :=
 ownsRow_setCell_other (ownsRow_setCell_other (ownsRow_setCell_other (ownsRow_setCell_other (ownsRow_setCell_other (ownsRow_setCell_other (ownsRow_setCell_other (ownsRow_setCell_other h hg b0) hg b1) hg b2) hg b3) hg b4) hg b5) hg b6) hg b7
theorem txn_c (z d s l a : Int) (x : AV) (bF oF fc bS oS sc n m : Nat) (F S : List GotR) (L : Int → Int → Rcd × List Int × Int) (pos sq left : Int) (w : World) (ho : Ok z d s l a) (hF : GV.In w w.heap.size ⟨some ⟨bF, oF, none⟩, fc, F⟩) (hS : GV.In w w.heap.size ⟨some ⟨bS, oS, none⟩, sc, S⟩) (hFn : F.length = n) (hSm : S.length = m) (hn : (n : Int) = l) (hm : (m : Int) = l) (hp : 0 ≤ pos ∧ pos < l) (hlf : left ≤ 30)
  (cL : ∀ (k : Nat) (of : Int) (Q : Nat) (x0 y0 : GotR) (R : Rcd) (V : List Int) (H : Int) (W : World), Below w.heap.size w W → (pos + (k : Int)) % l = (Q : Int) → F[Q]? = some x0 → S[Q]? = some y0 → L k of = (R, V, H) → Calls Tryz.prog 50 #[.agg #[.int .i64 z, .int .i64 d, .int .i64 s, .int .i64 l, .int .i64 a], .agg #[.int .i64 x.gen, .int .i64 x.ep, .int .i64 x.pos, .int .i64 x.seq, .int .i64 x.last, .string x.lab, .slice x.HA x.hs.length x.hc], .agg #[.int .i64 x0.e, .slice x0.A x0.l.length x0.c], .agg #[.int .i64 y0.e, .slice y0.A y0.l.length y0.c], .int .i64 (Q : Int), .int .i64 sq, .int .i64 (k : Int), .int .i64 of, .int .i64 left] W fun e w' => LookO W.heap.size R V H 0 e w' ∧ Below W.heap.size W w')
  (hL1 : ∀ k of, (L k of).2.2 = 1 ∨ (L k of).2.2 = 2 ∨ (L k of).2.2 = 3) (hL2 : ∀ k of, (L k of).2.1 = [] ∨ (L k of).2.1 = [0] ∨ (L k of).2.1 = [1])
  (hL3 : ∀ k of, (L k of).2.2 = 1 → RecOk z d (L k of).1 ∧ 2 ≤ (L k of).1.nm ∧ (of = 0 → (L k of).1.nm ≤ left) ∧ (of ≠ 0 → (L k of).1.nm = of)) :
  Calls Tryz.prog 30 #[.agg #[.int .i64 z, .int .i64 d, .int .i64 s, .int .i64 l, .int .i64 a, .int .i64 x.gen, .int .i64 x.ep, .int .i64 x.pos, .int .i64 x.seq, .int .i64 x.last, .string x.lab, .slice x.HA x.hs.length x.hc, .slice (some ⟨bF, oF, none⟩) n fc, .slice (some ⟨bS, oS, none⟩) m sc], .int .i64 pos, .int .i64 sq, .int .i64 left] w fun e w' => TxnA w.heap.size sq pos (runT L (fun k r ws => wrK l a ((pos + k) % l) r ws) 31 0 ⟨0, [], [], 1⟩) e w' ∧ Below w.heap.size w w' := by
 have s1 : (w.alloc (.cells #[.int .i64 z, .int .i64 d, .int .i64 s, .int .i64 l, .int .i64 a, .int .i64 x.gen, .int .i64 x.ep, .int .i64 x.pos, .int .i64 x.seq, .int .i64 x.last, .string x.lab, .slice x.HA x.hs.length x.hc, .slice (some ⟨bF, oF, none⟩) n fc, .slice (some ⟨bS, oS, none⟩) m sc] 72)).heap.size = w.heap.size + 1 := by simp
 have hx1 := bl (w.alloc (.cells #[.int .i64 z, .int .i64 d, .int .i64 s, .int .i64 l, .int .i64 a, .int .i64 x.gen, .int .i64 x.ep, .int .i64 x.pos, .int .i64 x.seq, .int .i64 x.last, .string x.lab, .slice x.HA x.hs.length x.hc, .slice (some ⟨bF, oF, none⟩) n fc, .slice (some ⟨bS, oS, none⟩) m sc] 72)) (.cells #[.int .i64 0, .int .i64 0, .int .i64 0, .slice none 0 0] 63)
 have RR := (r14_new w z d s l a x (some ⟨bF, oF, none⟩) fc (some ⟨bS, oS, none⟩) sc n m).keep hx1 (by omega)
 have P0 := fou_new (w.alloc (.cells #[.int .i64 z, .int .i64 d, .int .i64 s, .int .i64 l, .int .i64 a, .int .i64 x.gen, .int .i64 x.ep, .int .i64 x.pos, .int .i64 x.seq, .int .i64 x.last, .string x.lab, .slice x.HA x.hs.length x.hc, .slice (some ⟨bF, oF, none⟩) n fc, .slice (some ⟨bS, oS, none⟩) m sc] 72)) (.int .i64 0) (.int .i64 0) (.int .i64 0) (.slice none 0 0) 63
 rw [s1] at P0
 have hw := kal (bl w (.cells #[.int .i64 z, .int .i64 d, .int .i64 s, .int .i64 l, .int .i64 a, .int .i64 x.gen, .int .i64 x.ep, .int .i64 x.pos, .int .i64 x.seq, .int .i64 x.last, .string x.lab, .slice x.HA x.hs.length x.hc, .slice (some ⟨bF, oF, none⟩) n fc, .slice (some ⟨bS, oS, none⟩) m sc] 72)) (.cells #[.int .i64 0, .int .i64 0, .int .i64 0, .slice none 0 0] 63)
 have l0 : w.heap.size + 1 < ((w.alloc (.cells #[.int .i64 z, .int .i64 d, .int .i64 s, .int .i64 l, .int .i64 a, .int .i64 x.gen, .int .i64 x.ep, .int .i64 x.pos, .int .i64 x.seq, .int .i64 x.last, .string x.lab, .slice x.HA x.hs.length x.hc, .slice (some ⟨bF, oF, none⟩) n fc, .slice (some ⟨bS, oS, none⟩) m sc] 72)).alloc (.cells #[.int .i64 0, .int .i64 0, .int .i64 0, .slice none 0 0] 63)).heap.size := by simp
 have hll : 14 ≤ l ∧ l ≤ 30 := ho.2.2.2.1
 have HO := Lib.hid ho
 have HF0 := Lib.hid hF
 have HS0 := Lib.hid hS
 have HFN := Lib.hid hFn
 have HSM := Lib.hid hSm
 have HL := Lib.hid cL
 have HL1 := Lib.hid hL1
 have HL2 := Lib.hid hL2
 have HL3 := Lib.hid hL3
 obtain ⟨T, hT⟩ : ∃ T, T = runT L (fun k r ws => wrK l a ((pos + k) % l) r ws) 31 0 ⟨0, [], [], 1⟩ := ⟨_, rfl⟩
 rw [← hT]
 have HT0 := Lib.hid hT
 clear s1 hx1 ho hF hS hFn hSm cL hL1 hL2 hL3 hT
 go_enter Tryz.func30, Tryz.ntmps30
 go_upto_region 1 with fail
 generalize (w.alloc (.cells #[.int .i64 z, .int .i64 d, .int .i64 s, .int .i64 l, .int .i64 a, .int .i64 x.gen, .int .i64 x.ep, .int .i64 x.pos, .int .i64 x.seq, .int .i64 x.last, .string x.lab, .slice x.HA x.hs.length x.hc, .slice (some ⟨bF, oF, none⟩) n fc, .slice (some ⟨bS, oS, none⟩) m sc] 72)).alloc (.cells #[.int .i64 0, .int .i64 0, .int .i64 0, .slice none 0 0] 63) = w0 at *
 obtain ⟨a0, a1, a2, a3, f0, f1, f2, f3⟩ := id P0
 go_upto_region 2 with fail
 have P1 := ((((P0.set0 (.int .i64 sq)).set1 (.int .i64 pos)).set2 (.int .i64 0)).set3 (.slice none 0 0))
 have hb1 : Below (w.heap.size + 1) w0 ((((w0.setCell ⟨w.heap.size + 1, 0, none⟩ (.int .i64 sq)).setCell ⟨w.heap.size + 1, 1, none⟩ (.int .i64 pos)).setCell ⟨w.heap.size + 1, 2, none⟩ (.int .i64 0)).setCell ⟨w.heap.size + 1, 3, none⟩ (.slice none 0 0)) := (((((Below.refl (w.heap.size + 1) w0).setCell (p := ⟨w.heap.size + 1, 0, none⟩) (Nat.le_refl _) _).setCell (p := ⟨w.heap.size + 1, 1, none⟩) (Nat.le_refl _) _).setCell (p := ⟨w.heap.size + 1, 2, none⟩) (Nat.le_refl _) _).setCell (p := ⟨w.heap.size + 1, 3, none⟩) (Nat.le_refl _) _)
 have l1 : w.heap.size + 1 < ((((w0.setCell ⟨w.heap.size + 1, 0, none⟩ (.int .i64 sq)).setCell ⟨w.heap.size + 1, 1, none⟩ (.int .i64 pos)).setCell ⟨w.heap.size + 1, 2, none⟩ (.int .i64 0)).setCell ⟨w.heap.size + 1, 3, none⟩ (.slice none 0 0)).heap.size := by simpa using l0
 have R1 := RR.keep hb1 (Nat.lt_succ_self _)
 have hw1 : Below w.heap.size w _ := hw.trans (hb1.mono (Nat.le_succ _))
 clear a0 a1 a2 a3 f0 f1 f2 f3 RR P0 hw l0 hb1
 generalize ((((w0.setCell ⟨w.heap.size + 1, 0, none⟩ (.int .i64 sq)).setCell ⟨w.heap.size + 1, 1, none⟩ (.int .i64 pos)).setCell ⟨w.heap.size + 1, 2, none⟩ (.int .i64 0)).setCell ⟨w.heap.size + 1, 3, none⟩ (.slice none 0 0)) = w1 at *
 go_upto_region 3 with fail
 have HMR := Lib.hid (show ∀ W, Below (w.heap.size + 1) w1 W → R14 W w.heap.size z d s l a x (some ⟨bF, oF, none⟩) fc (some ⟨bS, oS, none⟩) sc n m from fun W hW => R1.keep hW (Nat.lt_succ_self _))
 have HW1 := Lib.hid hw1
 clear R1 hw1
 go_loopw [9, 11] (fun v i w' => ∃ (k : Nat) (t : TSt) (IA : Option Addr) (ic : Nat) (irs : List ImR) (WA : Option Addr) (wk : Nat) (wrs : List GotR), k ≤ 30 ∧ i = .int .i64 (k : Int) ∧ v = .slice WA wrs.length wk ∧ T = runT L (fun k r ws => wrK l a ((pos + k) % l) r ws) (31 - k) (k : Int) t ∧ t.how = 1 ∧ (k = 0 ∧ t.nm = 0 ∨ 1 ≤ k ∧ (k : Int) ≤ t.nm ∧ 2 ≤ t.nm ∧ t.nm ≤ left) ∧ Fou w' (w.heap.size + 1) (.int .i64 sq) (.int .i64 pos) (.int .i64 t.nm) (.slice IA irs.length ic) ∧ ids irs = t.ims ∧ gds wrs = t.ws ∧ irs.length ≤ k ∧ wrs.length ≤ k ∧ OwnI w' w1.heap.size (.slice IA irs.length ic) irs ∧ OwnWr w' w1.heap.size (.slice WA wrs.length wk) wrs ∧ Below (w.heap.size + 1) w1 w' ∧ w1.heap.size ≤ w'.heap.size) (fun _ i _ => 31 - (RowKit.intOf i).toNat)
 case atStart => exact ⟨0, ⟨0, [], [], 1⟩, none, 0, [], none, 0, [], by omega, rfl, rfl, HT0.out, rfl, .inl ⟨rfl, rfl⟩, P1, rfl, rfl, by simp, by simp, ownI_nil _ _, ownWr_nil _ _, Below.refl _ _, Nat.le_refl _⟩
 case round =>
  obtain ⟨w5, rfl⟩ : ∃ x, x = wr := ⟨wr, rfl⟩
  obtain ⟨k, t, IA, ic, irs, WA, wk, wrs, hk, rfl, rfl, hTk, hho, hkn, P5, hids, hgds, hil, hwl, hOI, hOW, hbr, lw⟩ := hrel
  have HTK := Lib.hid hTk
  have HKN := Lib.hid hkn
  have HID := Lib.hid hids
  have HGD := Lib.hid hgds
  clear hTk hids hgds P1
  obtain ⟨a0, a1, a2, a3, f0, f1, f2, f3⟩ := id P5
  have R5 := HMR.out w5 hbr
  have hT1 : w.heap.size + 1 < w5.heap.size := by omega
  have hnm : t.nm ≤ 30 ∧ 0 ≤ t.nm := by omega
  go_upto_region 3 with fail
  go_cut [31] from 116 (fun v wc => (∃ c : Bool, v = .bool c ∧ (c = true ↔ (k = 0 ∨ (k : Int) < t.nm))) ∧ wc = w5)
  case first =>
   clear hkn
   by_cases h0 : (k : Int) = 0
   ·have e0 : ((k : Int) == 0) = true := beq_iff_eq.2 h0
    have H1 := Lib.hid (show k = 0 by omega)
    clear h0
    go_wp2_with fail
    go_meet
    case rel => exact ⟨⟨true, rfl, fun _ => .inl H1.out, fun _ => rfl⟩, rfl⟩
   ·have e0 : ((k : Int) == 0) = false := beq_eq_false_iff_ne.2 h0
    have H1 := Lib.hid (show ¬ k = 0 by omega)
    by_cases h1 : (k : Int) < t.nm
    ·have H2 := Lib.hid h1
     go_wp2_with fail
     go_meet
     case rel => exact ⟨⟨true, rfl, fun _ => .inr H2.out, fun _ => rfl⟩, rfl⟩
    ·have H2 := Lib.hid h1
     go_wp2_with fail
     go_meet
     case rel => exact ⟨⟨false, rfl, fun h => absurd h Bool.false_ne_true, fun h => absurd h (fun h => h.elim H1.out (fun q => by have := H2.out; omega))⟩, rfl⟩
  case rest =>
   obtain ⟨⟨c, rfl, hc⟩, hwc⟩ := hcut
   have hwc2 := hwc.symm
   clear hwc
   subst hwc2
   have HC := Lib.hid hc
   clear hc
   cases c
   case false =>
    have HE := Lib.hid (show T = t by rw [HTK.out]; exact runT_stop _ (fun h => absurd (HC.out.2 (by rcases h with h | h; exact .inl (by omega); exact .inr h)) Bool.false_ne_true))
    have K := ((((P5.set0 (.int .i64 sq)).set1 (.int .i64 pos)).set2 (.int .i64 t.nm)).set3 (.slice IA irs.length ic))
    have hwB : w.heap.size + 1 < w1.heap.size := l1
    have hI4 := ((((hOI.cell_set (o := 0) hwB (.int .i64 sq)).cell_set (o := 1) hwB (.int .i64 pos)).cell_set (o := 2) hwB (.int .i64 t.nm)).cell_set (o := 3) hwB (.slice IA irs.length ic)).less HW1.out.size
    have hW4 := ((((hOW.cell_set (o := 0) hwB (.int .i64 sq)).cell_set (o := 1) hwB (.int .i64 pos)).cell_set (o := 2) hwB (.int .i64 t.nm)).cell_set (o := 3) hwB (.slice IA irs.length ic)).less HW1.out.size
    have hb4 := (((((HW1.out.trans (hbr.mono (Nat.le_succ _))).setCell (p := ⟨w.heap.size + 1, 0, none⟩) (Nat.le_succ _) (.int .i64 sq)).setCell (p := ⟨w.heap.size + 1, 1, none⟩) (Nat.le_succ _) (.int .i64 pos)).setCell (p := ⟨w.heap.size + 1, 2, none⟩) (Nat.le_succ _) (.int .i64 t.nm)).setCell (p := ⟨w.heap.size + 1, 3, none⟩) (Nat.le_succ _) (.slice IA irs.length ic))
    clear HC HKN hkn
    go_wp2_with fail
    exact bodyPost_ret (v := .tuple #[.agg #[.int .i64 sq, .int .i64 pos, .int .i64 t.nm, .slice IA irs.length ic], .slice WA wrs.length wk, .int .i64 0]) (by simp [results, Tryz.results30, go_sem, K.c0, K.c1, K.c2, K.c3]) rfl ⟨.inl ⟨by rw [HE.out]; exact hho, IA, ic, irs, WA, wk, wrs, by rw [HE.out], by rw [HE.out]; exact HID.out, by rw [HE.out]; exact HGD.out, hI4, hW4, by omega, by omega⟩, hb4⟩
   case true =>
    have hcond := HC.out.1 rfl
    clear HC
    obtain ⟨Q, hQ⟩ : ∃ Q : Nat, (pos + (k : Int)) % l = (Q : Int) := ⟨((pos + (k : Int)) % l).toNat, by have := Int.emod_nonneg (pos + (k : Int)) (b := l) (by omega); omega⟩
    have hQl : (Q : Int) < l := by rw [← hQ]; exact Int.emod_lt_of_pos _ (by omega)
    obtain ⟨b1, off1, x0, hx0, hbF, m1, m2, -, -, hxQ, -⟩ := got_at (HF0.out.below (HW1.out.trans (hbr.mono (Nat.le_succ _)))).h (HF0.out.below (HW1.out.trans (hbr.mono (Nat.le_succ _)))).i (show Q < F.length by have := HFN.out; omega)
    obtain ⟨b2, off2, y0, hy0, hbS, m3, m4, -, -, hyQ, -⟩ := got_at (HS0.out.below (HW1.out.trans (hbr.mono (Nat.le_succ _)))).h (HS0.out.below (HW1.out.trans (hbr.mono (Nat.le_succ _)))).i (show Q < S.length by have := HSM.out; omega)
    simp only [Option.some.injEq, Addr.mk.injEq, and_true] at hx0 hy0
    obtain ⟨rfl, rfl⟩ := hx0
    obtain ⟨rfl, rfl⟩ := hy0
    have HBH := Lib.hid (fun W => behind_c z d s l a x (some ⟨bF, oF, none⟩) fc (some ⟨bS, oS, none⟩) sc n m pos (k : Int) (Q : Int) W hll (by omega) (by omega) hQ)
    have i1 : (Q : Int) < (n : Int) := by omega
    have i2 : (Q : Int) < (m : Int) := by omega
    have i0 : 0 ≤ (Q : Int) := by omega
    obtain ⟨r0, r1, r2, r3, r4, r5, r6, r7, r8, r9, r10, r11, r12, r13⟩ := id R5
    clear hkn
    go_upto_region 6 with (go_at_call 31; (with_reducible refine (HBH.out w5).mono ?_); rintro e w6 ⟨rfl, hb6⟩)
    clear r0 r1 r2 r3 r4 r5 r6 r7 r8 r9 r10 r11 r12 r13 a0 a1 a2 a3 f0 f1 f2 f3
    have P6 := P5.keep hb6 hT1
    have R6 := R5.keep hb6 (by omega)
    have hbr6 : Below (w.heap.size + 1) w1 w6 := hbr.trans (hb6.mono (by omega))
    have hw6 : Below w.heap.size w w6 := HW1.out.trans (hbr6.mono (Nat.le_succ _))
    have l56 := hb6.size
    have gF : bF < w6.heap.size := by omega
    have gS : bS < w6.heap.size := by omega
    have gR : w.heap.size < w6.heap.size := by omega
    have gT : w.heap.size + 1 < w6.heap.size := by omega
    have l16 : w1.heap.size ≤ w6.heap.size := by omega
    have n1 := kst hb6 (show bF < w5.heap.size by omega) m1
    have n2 := kst hb6 (show bF < w5.heap.size by omega) m2
    have n3 := kst hb6 (show bS < w5.heap.size by omega) m3
    have n4 := kst hb6 (show bS < w5.heap.size by omega) m4
    have hOI6 := hOI.below hb6
    have hOW6 := hOW.below hb6
    clear P5 R5 hOI hOW m1 m2 m3 m4 HBH hbr lw hT1
    obtain ⟨⟨R, V, H⟩, hLk⟩ : ∃ y, L (k : Int) t.nm = y := ⟨_, rfl⟩
    have q1 := HL1.out (k : Int) t.nm
    have q2 := HL2.out (k : Int) t.nm
    have q3 := HL3.out (k : Int) t.nm
    rw [hLk] at q1 q2 q3
    dsimp only at q1 q2 q3
    have hstep := runT_step (L := L) (Wf := fun k r ws => wrK l a ((pos + k) % l) r ws) hk hho hcond hLk
    rw [← HTK.out, hQ] at hstep
    have HST := Lib.hid hstep
    have HLK := Lib.hid (show ∀ W, Below w6.heap.size w6 W → Calls Tryz.prog 50 #[.agg #[.int .i64 z, .int .i64 d, .int .i64 s, .int .i64 l, .int .i64 a], .agg #[.int .i64 x.gen, .int .i64 x.ep, .int .i64 x.pos, .int .i64 x.seq, .int .i64 x.last, .string x.lab, .slice x.HA x.hs.length x.hc], .agg #[.int .i64 x0.e, .slice x0.A x0.l.length x0.c], .agg #[.int .i64 y0.e, .slice y0.A y0.l.length y0.c], .int .i64 (Q : Int), .int .i64 sq, .int .i64 (k : Int), .int .i64 t.nm, .int .i64 left] W fun e w' => LookO W.heap.size R V H 0 e w' ∧ Below W.heap.size W w' from fun W hW => HL.out k t.nm Q x0 y0 R V H W (bt hw6 hW) hQ hxQ hyQ hLk)
    have HQ1 := Lib.hid q1
    have HQ2 := Lib.hid q2
    have HQ3 := Lib.hid q3
    have HC := Lib.hid hcond
    have HF := Lib.hid (show ∀ W, Below w6.heap.size w6 W → (W.cell? ⟨w.heap.size, 0, none⟩ = some (.int .i64 z) ∧ W.cell? ⟨w.heap.size, 1, none⟩ = some (.int .i64 d) ∧ W.cell? ⟨w.heap.size, 2, none⟩ = some (.int .i64 s) ∧ W.cell? ⟨w.heap.size, 3, none⟩ = some (.int .i64 l) ∧ W.cell? ⟨w.heap.size, 4, none⟩ = some (.int .i64 a) ∧ W.cell? ⟨w.heap.size, 5, none⟩ = some (.int .i64 x.gen) ∧ W.cell? ⟨w.heap.size, 6, none⟩ = some (.int .i64 x.ep) ∧ W.cell? ⟨w.heap.size, 7, none⟩ = some (.int .i64 x.pos) ∧ W.cell? ⟨w.heap.size, 8, none⟩ = some (.int .i64 x.seq) ∧ W.cell? ⟨w.heap.size, 9, none⟩ = some (.int .i64 x.last) ∧ W.cell? ⟨w.heap.size, 10, none⟩ = some (.string x.lab) ∧ W.cell? ⟨w.heap.size, 11, none⟩ = some (.slice x.HA x.hs.length x.hc) ∧ W.cell? ⟨w.heap.size, 12, none⟩ = some (.slice (some ⟨bF, oF, none⟩) n fc) ∧ W.cell? ⟨w.heap.size, 13, none⟩ = some (.slice (some ⟨bS, oS, none⟩) m sc) ∧ W.cell? ⟨w.heap.size + 1, 2, none⟩ = some (.int .i64 t.nm) ∧ W.cell? ⟨bF, oF + Q * 2, none⟩ = some (.int .i64 x0.e) ∧ W.cell? ⟨bF, oF + Q * 2 + 1, none⟩ = some (.slice x0.A x0.l.length x0.c) ∧ W.cell? ⟨bS, oS + Q * 2, none⟩ = some (.int .i64 y0.e) ∧ W.cell? ⟨bS, oS + Q * 2 + 1, none⟩ = some (.slice y0.A y0.l.length y0.c)) ∧ Below w6.heap.size w6 W from fun W hW => by
     obtain ⟨r0, r1, r2, r3, r4, r5, r6, r7, r8, r9, r10, r11, r12, r13⟩ := R6.keep hW gR
     exact ⟨⟨r0, r1, r2, r3, r4, r5, r6, r7, r8, r9, r10, r11, r12, r13, (P6.keep hW gT).c2, kst hW gF n1, kst hW gF n2, kst hW gS n3, kst hW gS n4⟩, hW⟩)
    clear hLk q1 q2 q3 hstep hcond hxQ hyQ
    go_cut [13, 14, 15, 16] from 116 (fun p v h e wx => ∃ (g : Nat) (X : Option Addr) (xc : Nat) (Y : Option Addr) (yc : Nat), p = .pointer (some ⟨g, 0, none⟩) ∧ v = .slice Y V.length yc ∧ h = .int .i64 H ∧ e = .int .i64 0 ∧ w6.heap.size ≤ g ∧ C8 wx g (.int .i64 R.kd) (.int .i64 R.sq) (.int .i64 R.ep) (.int .i64 R.ps) (.int .i64 R.nm) (.int .i64 R.z) (.int .i64 R.wh) (.slice X R.l.length xc) ∧ Own wx w6.heap.size 5 (.slice X R.l.length xc) R.l ∧ OwnV wx w6.heap.size 3 (.slice Y V.length yc) (ints V) ∧ Below w6.heap.size w6 wx)
    case first =>
     clear P6 R6 n1 n2 n3 n4 hOI6 hOW6 HMR HF0 HS0 HL HL1 HL2 HL3 HST HTK HKN HID HGD HQ1 HQ2 HQ3 HC HO HFN HSM hbr6 HT0
     go_region_held3 (fun W => (W.cell? ⟨w.heap.size, 0, none⟩ = some (.int .i64 z) ∧ W.cell? ⟨w.heap.size, 1, none⟩ = some (.int .i64 d) ∧ W.cell? ⟨w.heap.size, 2, none⟩ = some (.int .i64 s) ∧ W.cell? ⟨w.heap.size, 3, none⟩ = some (.int .i64 l) ∧ W.cell? ⟨w.heap.size, 4, none⟩ = some (.int .i64 a) ∧ W.cell? ⟨w.heap.size, 5, none⟩ = some (.int .i64 x.gen) ∧ W.cell? ⟨w.heap.size, 6, none⟩ = some (.int .i64 x.ep) ∧ W.cell? ⟨w.heap.size, 7, none⟩ = some (.int .i64 x.pos) ∧ W.cell? ⟨w.heap.size, 8, none⟩ = some (.int .i64 x.seq) ∧ W.cell? ⟨w.heap.size, 9, none⟩ = some (.int .i64 x.last) ∧ W.cell? ⟨w.heap.size, 10, none⟩ = some (.string x.lab) ∧ W.cell? ⟨w.heap.size, 11, none⟩ = some (.slice x.HA x.hs.length x.hc) ∧ W.cell? ⟨w.heap.size, 12, none⟩ = some (.slice (some ⟨bF, oF, none⟩) n fc) ∧ W.cell? ⟨w.heap.size, 13, none⟩ = some (.slice (some ⟨bS, oS, none⟩) m sc) ∧ W.cell? ⟨w.heap.size + 1, 2, none⟩ = some (.int .i64 t.nm) ∧ W.cell? ⟨bF, oF + Q * 2, none⟩ = some (.int .i64 x0.e) ∧ W.cell? ⟨bF, oF + Q * 2 + 1, none⟩ = some (.slice x0.A x0.l.length x0.c) ∧ W.cell? ⟨bS, oS + Q * 2, none⟩ = some (.int .i64 y0.e) ∧ W.cell? ⟨bS, oS + Q * 2 + 1, none⟩ = some (.slice y0.A y0.l.length y0.c)) ∧ Below w6.heap.size w6 W)
      ((refine HF.out _ ?_; first
       | with_reducible exact hb7
       | with_reducible exact kal hb7 _
       | with_reducible exact below_dr (Below.refl _ _)
       | with_reducible exact below_dr (bl w6 _)
       | with_reducible exact kal (below_dr (Below.refl _ _)) _
       | with_reducible exact below_all hb7 (Nat.le_refl _) _ _ _ _ _ _ _ _
       | with_reducible exact below_all (kal hb7 _) hb7.size _ _ _ _ _ _ _ _
       | fail))
      (first
       | (go_at_call 50; (with_reducible refine (HLK.out w6.drew (below_dr (Below.refl _ _))).mono ?_); rintro e w7 ⟨⟨X, xc, Y, yc, rfl, oX, oY⟩, hbq⟩; have hb7 : Below w6.heap.size w6 w7 := bt (below_dr (Below.refl w6.heap.size w6)) hbq; clear hbq)
       | (go_at_call 50; (with_reducible refine (HLK.out (w6.alloc (.cells #[.int .i64 0, .int .i64 0, .int .i64 0, .int .i64 0, .int .i64 0, .int .i64 0, .int .i64 0, .slice none 0 0] 83)).drew (below_dr (bl w6 _))).mono ?_); rintro e w7 ⟨⟨X, xc, Y, yc, rfl, oX, oY⟩, hbq⟩; have hb7 : Below w6.heap.size w6 w7 := bt (below_dr (bl w6 (.cells #[.int .i64 0, .int .i64 0, .int .i64 0, .int .i64 0, .int .i64 0, .int .i64 0, .int .i64 0, .slice none 0 0] 83))) hbq; have PY := ((eig_new w6 (.int .i64 0) (.int .i64 0) (.int .i64 0) (.int .i64 0) (.int .i64 0) (.int .i64 0) (.int .i64 0) (.slice none 0 0) 83).keep (below_dr (Below.refl (w6.heap.size + 1) _)) (Nat.lt_succ_self _)).keep hbq (by simp); obtain ⟨p0, p1, p2, p3, p4, p5, p6, p7, f0, f1, f2, f3, f4, f5, f6, f7⟩ := id PY; clear hbq)
       | fail)
     all_goals (go_wp2_with fail; go_meet)
     ·exact ⟨w7.heap.size, X, xc, Y, yc, rfl, rfl, rfl, rfl, hb7.size, c8_new w7 _ _ _ _ _ _ _ _ _, (oX.below (bl w7 _)).less (Nat.le_refl _), OwnV.less (OwnV.below oY (bl w7 _)) (Nat.le_refl _), kal hb7 _⟩
     ·have K := PY.all (.int .i64 R.kd) (.int .i64 R.sq) (.int .i64 R.ep) (.int .i64 R.ps) (.int .i64 R.nm) (.int .i64 R.z) (.int .i64 R.wh) (.slice X R.l.length xc)
      have e9 : ∀ {e : TypeId} {u : Value} {j i : Nat} {xs : List Value}, w7.ownsRow (w6.alloc (.cells #[.int .i64 0, .int .i64 0, .int .i64 0, .int .i64 0, .int .i64 0, .int .i64 0, .int .i64 0, .slice none 0 0] 83)).drew.heap.size e j u i xs → u.ownBlock ≠ some w6.heap.size := fun hu k => by
       have h9 := (World.ownsRow.lt hu _ k).1
       have : (w6.alloc (.cells #[.int .i64 0, .int .i64 0, .int .i64 0, .int .i64 0, .int .i64 0, .int .i64 0, .int .i64 0, .slice none 0 0] 83)).drew.heap.size = w6.heap.size + 1 := by simp
       omega
      have l9 : w6.heap.size ≤ (w6.alloc (.cells #[.int .i64 0, .int .i64 0, .int .i64 0, .int .i64 0, .int .i64 0, .int .i64 0, .int .i64 0, .slice none 0 0] 83)).drew.heap.size := by simp
      exact ⟨w6.heap.size, X, xc, Y, yc, rfl, rfl, rfl, rfl, Nat.le_refl _, ⟨K.c0, K.c1, K.c2, K.c3, K.c4, K.c5, K.c6, K.c7⟩, Own.less (row_8 oX (e9 oX) (.int .i64 R.kd) (.int .i64 R.sq) (.int .i64 R.ep) (.int .i64 R.ps) (.int .i64 R.nm) (.int .i64 R.z) (.int .i64 R.wh) (.slice X R.l.length xc)) l9, OwnV.less (row_8 oY (e9 oY) (.int .i64 R.kd) (.int .i64 R.sq) (.int .i64 R.ep) (.int .i64 R.ps) (.int .i64 R.nm) (.int .i64 R.z) (.int .i64 R.wh) (.slice X R.l.length xc)) l9, below_all hb7 (Nat.le_refl _) (.int .i64 R.kd) (.int .i64 R.sq) (.int .i64 R.ep) (.int .i64 R.ps) (.int .i64 R.nm) (.int .i64 R.z) (.int .i64 R.wh) (.slice X R.l.length xc)⟩
    case rest =>
     obtain ⟨g8, X, xc, Y, yc, rfl, rfl, rfl, rfl, hg6, hC8, oX, oY, hb8⟩ := hcut
     obtain ⟨w8, rfl⟩ : ∃ y, y = wc := ⟨wc, rfl⟩
     have P8 := P6.keep hb8 gT
     have hbr8 : Below (w.heap.size + 1) w1 w8 := hbr6.trans (hb8.mono (by omega))
     have hw8 : Below w.heap.size w w8 := HW1.out.trans (hbr8.mono (Nat.le_succ _))
     have l68 := hb8.size
     have hOI8 := hOI6.below hb8
     have hOW8 := hOW6.below hb8
     have oX8 := oX.less l16
     have oY8 := OwnV.less oY l16
     have hfarI : (Value.slice IA irs.length ic).ownBlock ≠ some g8 := fun e => by have := (World.ownsRow.lt hOI6.1 g8 e).2; omega
     have hfarW : (Value.slice WA wrs.length wk).ownBlock ≠ some g8 := fun e => by have := (World.ownsRow.lt hOW6.1 g8 e).2; omega
     clear HF HLK n1 n2 n3 n4 P6 R6 hOI6 hOW6 oX oY hbr6 hw6 hb8 hb6
     obtain ⟨r0, r1, r2, r3, r4, r5, r6, r7⟩ := id hC8
     obtain ⟨a0, a1, a2, a3, f0, f1, f2, f3⟩ := id P8
     have HZ : ∀ v : Int, (H = 2 ∧ v = 0 ∨ H = 3 ∧ v = 12) → TxnA w.heap.size sq pos T (.returned (.tuple #[.agg #[.int .i64 0, .int .i64 0, .int .i64 0, .slice none 0 0], .slice none 0 0, .int .i64 v])) ((((w8.setCell ⟨w.heap.size + 1, 0, none⟩ (.int .i64 0)).setCell ⟨w.heap.size + 1, 1, none⟩ (.int .i64 0)).setCell ⟨w.heap.size + 1, 2, none⟩ (.int .i64 0)).setCell ⟨w.heap.size + 1, 3, none⟩ (.slice none 0 0)) := fun v hv => by
      have hst := HST.out
      rcases hv with ⟨rfl, rfl⟩ | ⟨rfl, rfl⟩
      ·rw [if_neg (by decide)] at hst
       exact .inr (.inl ⟨by rw [hst], rfl⟩)
      ·rw [if_neg (by decide)] at hst
       exact .inr (.inr ⟨by rw [hst], rfl⟩)
     have HZ2 := Lib.hid HZ
     have hbz : Below w.heap.size w ((((w8.setCell ⟨w.heap.size + 1, 0, none⟩ (.int .i64 0)).setCell ⟨w.heap.size + 1, 1, none⟩ (.int .i64 0)).setCell ⟨w.heap.size + 1, 2, none⟩ (.int .i64 0)).setCell ⟨w.heap.size + 1, 3, none⟩ (.slice none 0 0)) := ((((hw8.setCell (p := ⟨w.heap.size + 1, 0, none⟩) (Nat.le_succ _) _).setCell (p := ⟨w.heap.size + 1, 1, none⟩) (Nat.le_succ _) _).setCell (p := ⟨w.heap.size + 1, 2, none⟩) (Nat.le_succ _) _).setCell (p := ⟨w.heap.size + 1, 3, none⟩) (Nat.le_succ _) _)
     have KZ := ((((P8.set0 (.int .i64 0)).set1 (.int .i64 0)).set2 (.int .i64 0)).set3 (.slice none 0 0))
     have q1 := HQ1.out
     clear HZ HQ1
     rcases q1 with rfl | rfl | rfl
     case inr.inl =>
      go_wp2_with fail
      exact bodyPost_ret (v := .tuple #[.agg #[.int .i64 0, .int .i64 0, .int .i64 0, .slice none 0 0], .slice none 0 0, .int .i64 0]) (by simp [results, Tryz.results30, go_sem, KZ.c0, KZ.c1, KZ.c2, KZ.c3]) rfl ⟨HZ2.out 0 (by simp), hbz⟩
     case inr.inr =>
      go_wp2_with fail
      exact bodyPost_ret (v := .tuple #[.agg #[.int .i64 0, .int .i64 0, .int .i64 0, .slice none 0 0], .slice none 0 0, .int .i64 12]) (by simp [results, Tryz.results30, go_sem, KZ.c0, KZ.c1, KZ.c2, KZ.c3]) rfl ⟨HZ2.out 12 (by simp), hbz⟩
     case inl =>
      have hst := HST.out
      rw [if_pos rfl] at hst
      have HS2 := Lib.hid hst
      have h3 := HQ3.out rfl
      have H3 := Lib.hid h3.1
      have hnm2 : 2 ≤ R.nm ∧ R.nm ≤ left ∧ ((k : Int) + 1 ≤ R.nm) := by
       obtain ⟨-, h4, h5, h6⟩ := h3
       have hkn := HKN.out
       have hc := HC.out
       refine ⟨h4, ?_, ?_⟩
       ·by_cases h0 : t.nm = 0
        ·exact h5 h0
        ·have := h6 h0; omega
       ·by_cases h0 : t.nm = 0
        ·omega
        ·have := h6 h0; omega
      have TM0 : TM w8 w1.heap.size (w.heap.size + 1) g8 sq pos t.nm R X xc Y yc V (.slice IA irs.length ic) irs (.slice WA wrs.length wk) wrs := ⟨P8, hC8, oX8, oY8, hOI8, hOW8, l1, by omega, hfarW, hfarI⟩
      have HNM := Lib.hid hnm2
      clear hst HST HQ3 h3 HZ2 hbz KZ hOI8 hOW8 oX8 oY8 hnm2 P8 hC8 hfarI hfarW
      go_upto_region 12 with fail
      have TM1 := TM0.set2 R.nm
      have hb9 : Below (w.heap.size + 1) w8 (w8.setCell ⟨w.heap.size + 1, 2, none⟩ (.int .i64 R.nm)) := (Below.refl (w.heap.size + 1) w8).setCell (p := ⟨w.heap.size + 1, 2, none⟩) (Nat.le_refl _) _
      have hbr9 := hbr8.trans hb9
      have hw9 : Below w.heap.size w _ := HW1.out.trans (hbr9.mono (Nat.le_succ _))
      have l89 : w8.heap.size ≤ (w8.setCell ⟨w.heap.size + 1, 2, none⟩ (.int .i64 R.nm)).heap.size := hb9.size
      clear r0 r1 r2 r3 r4 r5 r6 r7 a0 a1 a2 a3 f0 f1 f2 f3 TM0 hb9 hbr8 hw8
      generalize w8.setCell ⟨w.heap.size + 1, 2, none⟩ (.int .i64 R.nm) = w9 at *
      obtain ⟨r0, r1, r2, r3, r4, r5, r6, r7⟩ := id TM1.C
      obtain ⟨a0, a1, a2, a3, f0, f1, f2, f3⟩ := id TM1.P
      go_cut [83] from 116 (fun v wc => (∃ c : Bool, v = .bool c ∧ (c = true ↔ R.kd = 1)) ∧ wc = w9)
      case first =>
       go_wp2_with fail
       go_meet
       case rel => exact ⟨⟨R.kd == 1, rfl, beq_iff_eq⟩, rfl⟩
      case rest =>
       obtain ⟨⟨c, rfl, hc⟩, hwc⟩ := hcut
       have hwc2 := hwc.symm
       clear hwc
       subst hwc2
       have HKD := Lib.hid hc
       clear hc
       go_upto_if 83 with fail
       go_cut [] from 116 (fun wc => ∃ (iv : Value) (irs' : List ImR), TM wc w1.heap.size (w.heap.size + 1) g8 sq pos R.nm R X xc Y yc V iv irs' (.slice WA wrs.length wk) wrs ∧ ids irs' = t.ims ++ imgO R ∧ irs'.length ≤ k + 1 ∧ Below (w.heap.size + 1) w9 wc ∧ w9.heap.size ≤ wc.heap.size)
       case first =>
        clear HMR HF0 HS0 HL HL1 HL2 HL3 HTK HKN HQ2 HC HO HFN HSM HT0 HS2 HNM
        cases c
        case true =>
         have HK := Lib.hid (show imgO R = [(R.z, R.wh, R.l)] by unfold imgO; rw [if_pos (HKD.out.1 rfl)])
         clear HKD
         go_wp2_with (at_builtin; refine wpList_rowS _ rfl (.tmp 85) (.tmp 88) _ _ rfl w1.heap.size 3 40 81 (.agg #[.int .i64 0, .int .i64 0, .slice none 0 0]) Tryz.underlying61 im_info rfl (.slice IA irs.length ic) irs.length (ivs irs) rfl (World.ownsRow.alloc TM1.oI.1 _) _ 1 _ rfl (src_img (P := Tryz.prog) (heap_alloc_new w9 _) Tryz.underlying61 (by simp [Value.oneCell'])) (by unfold maxLen; omega) (by omega) (by simp; omega) ?_; intro vI wI hI hgI hdI; (obtain ⟨AI, cI, hvI, -, -, -⟩ := row_form hI); subst hvI; have TMa := TM1.below (bl w9 (.cells #[.int .i64 R.z, .int .i64 R.wh, .slice X R.l.length xc] 81)); have hfarQ : ∀ q, (Value.slice IA irs.length ic).ownBlock = some q → w.heap.size + 1 ≤ q := (fun q hq => by have := (World.ownsRow.lt TMa.oI.1 q hq).1; omega); have PI := TMa.P.grown hgI (fun e => by have := (World.ownsRow.lt TMa.oI.1 _ e.symm).1; omega); clear a0 a1 a2 a3 f0 f1 f2 f3; obtain ⟨a0, a1, a2, a3, f0, f1, f2, f3⟩ := id PI)
         have hb10 : Below (w.heap.size + 1) w9 (wI.setCell ⟨w.heap.size + 1, 3, none⟩ (.slice AI (irs.length + 1) cI)) := (((Below.refl (w.heap.size + 1) w9).alloc (by omega) (.cells #[.int .i64 R.z, .int .i64 R.wh, .slice X R.l.length xc] 81)).grown hgI (by simp; omega) hfarQ).setCell (p := ⟨w.heap.size + 1, 3, none⟩) (Nat.le_refl _) (.slice AI (irs.length + 1) cI)
         go_meet
         case rel => exact ⟨.slice AI (irs.length + 1) cI, irs ++ [⟨R.z, R.wh, X, xc, R.l⟩], TMa.growI (r := ⟨R.z, R.wh, X, xc, R.l⟩) TMa.oX hI hgI hdI, by rw [HK.out, ids_append, HID.out]; rfl, by rw [List.length_append]; exact Nat.add_le_add hil (Nat.le_refl 1), hb10, by rw [World.size_setCell]; have := hgI.size; simp at this; omega⟩
        case false =>
         have HK := Lib.hid (show imgO R = [] by unfold imgO; rw [if_neg fun h => absurd (HKD.out.2 h) Bool.false_ne_true])
         clear HKD
         go_wp2_with fail
         go_meet
         case rel => exact ⟨_, irs, TM1, by rw [HK.out, List.append_nil]; exact HID.out, by omega, Below.refl _ _, Nat.le_refl _⟩
       case rest =>
        obtain ⟨iv, irs2, TM2, hid2, hil2, hbA, l9A⟩ := hcut
        obtain ⟨wA, rfl⟩ : ∃ y, y = wc := ⟨wc, rfl⟩
        have HI2 := Lib.hid hid2
        have hbrA : Below (w.heap.size + 1) w1 wA := hbr9.trans hbA
        clear hid2 TM1 r0 r1 r2 r3 r4 r5 r6 r7 a0 a1 a2 a3 f0 f1 f2 f3 hbr9 hw9 hbA
        obtain ⟨N, hN⟩ : ∃ N, N = V.length := ⟨_, rfl⟩
        rw [← hN]
        have HN := Lib.hid hN
        have hN1 : N ≤ 1 := by rw [hN]; rcases HQ2.out with rfl | rfl | rfl <;> simp
        clear hN
        go_upto_region 15 with fail
        go_loopw [9, 93] (fun v j w' => ∃ (i : Nat) (wr2 : List GotR), i ≤ N ∧ j = .int .i64 (i : Int) ∧ gds wr2 = t.ws ++ wrK l a Q R (V.take i) ∧ wr2.length ≤ wrs.length + i ∧ TM w' w1.heap.size (w.heap.size + 1) g8 sq pos R.nm R X xc Y yc V iv irs2 v wr2 ∧ Below (w.heap.size + 1) w1 w' ∧ w1.heap.size ≤ w'.heap.size) (fun _ j _ => N - (RowKit.intOf j).toNat)
        case atStart => exact ⟨0, wrs, by omega, rfl, by rw [HGD.out]; simp [wrK], Nat.le_refl _, TM2, hbrA, by omega⟩
        case round =>
         obtain ⟨wB, rfl⟩ : ∃ x, x = wr := ⟨wr, rfl⟩
         obtain ⟨i, wr2, hi, rfl, hgd2, hwl2, TMB, hbrB, lB⟩ := hrel
         have HG2 := Lib.hid hgd2
         clear hgd2 TM2
         have RB := HMR.out wB hbrB
         have hTB : w.heap.size + 1 < wB.heap.size := by omega
         by_cases hlt : i < N
         ·obtain ⟨c, hc01, rfl⟩ : ∃ c : Int, (c = 0 ∨ c = 1) ∧ V = [c] := by
           have h9 := HN.out
           rcases HQ2.out with rfl | rfl | rfl
           ·have h8 : N = 0 := h9
            omega
           ·exact ⟨0, .inl rfl, rfl⟩
           ·exact ⟨1, .inr rfl, rfl⟩
          obtain rfl : i = 0 := by omega
          obtain ⟨Y', yc', hvY, -, -, hslY, -⟩ := TMB.oY.form
          simp only [Value.slice.injEq] at hvY
          obtain ⟨rfl, -, rfl⟩ := hvY
          obtain ⟨bY, oY, rfl, hbY, hcY⟩ := hslY (by simp [ints])
          have w0c : wB.cell? ⟨bY, oY, none⟩ = some (.int .i64 c) := by
           have h9 := hcY 0 (by simp [ints])
           rw [Nat.add_zero] at h9
           exact h9
          obtain ⟨E, hE⟩ : ∃ E, E = sel.enc (cellN l a c Q) R.sq.toNat (encR R) := ⟨_, rfl⟩
          have HWR := Lib.hid (show Calls Tryz.prog 51 #[.agg #[.int .i64 z, .int .i64 d, .int .i64 s, .int .i64 l, .int .i64 a, .int .i64 x.gen, .int .i64 x.ep, .int .i64 x.pos, .int .i64 x.seq, .int .i64 x.last, .string x.lab, .slice x.HA x.hs.length x.hc, .slice (some ⟨bF, oF, none⟩) n fc, .slice (some ⟨bS, oS, none⟩) m sc], .agg #[.int .i64 R.kd, .int .i64 R.sq, .int .i64 R.ep, .int .i64 R.ps, .int .i64 R.nm, .int .i64 R.z, .int .i64 R.wh, .slice X R.l.length xc], .int .i64 c, .int .i64 (Q : Int)] wB fun e w' => WriA wB.heap.size (a + c * l + (Q : Int)) E e w' ∧ Below wB.heap.size wB w' from by
           rw [hE]
           exact write_c z d s l a x (some ⟨bF, oF, none⟩) fc (some ⟨bS, oS, none⟩) sc n m ⟨R.kd, R.sq, R.ep, R.ps, R.nm, ⟨R.z, R.wh, X, xc, R.l⟩⟩ R.l.length c (Q : Int) wB HO.out (img.own_bin (r := ⟨R.z, R.wh, X, xc, R.l⟩) TMB.oX) rfl H3.out ⟨hc01, by omega, by omega⟩)
          have hwr : wrK l a (Q : Int) R [c] = [(a + c * l + (Q : Int), E)] := by rw [hE]; rfl
          have HWK := Lib.hid hwr
          have j0 : (0 : Int) < (N : Int) := by omega
          rw [show ((0 : Nat) : Int) = 0 from rfl]
          clear hE hwr hslY hcY hi hlt
          go_upto_region 17 with fail
          obtain ⟨r0, r1, r2, r3, r4, r5, r6, r7, r8, r9, r10, r11, r12, r13⟩ := id RB
          obtain ⟨p0, p1, p2, p3, p4, p5, p6, p7⟩ := id TMB.C
          go_upto_region 18 with (go_at_call 51; (with_reducible refine HWR.out.mono ?_); rintro e wC ⟨⟨X2, c2, rfl, o2⟩, hbC⟩)
          have hxC := bl wC (.cells #[.int .i64 (a + c * l + (Q : Int)), .slice X2 E.length c2] 56)
          have ZC := zwo_new wC (.int .i64 (a + c * l + (Q : Int))) (.slice X2 E.length c2) 56
          have TMC := (TMB.below hbC).below hxC
          have o3 := (o2.below hxC).less lB
          have hbrC : Below (w.heap.size + 1) w1 (wC.alloc (.cells #[.int .i64 (a + c * l + (Q : Int)), .slice X2 E.length c2] 56)) := hbrB.trans ((kal hbC _).mono (by omega))
          have lC : w1.heap.size ≤ (wC.alloc (.cells #[.int .i64 (a + c * l + (Q : Int)), .slice X2 E.length c2] 56)).heap.size := Nat.le_trans lB (kal hbC _).size
          clear r0 r1 r2 r3 r4 r5 r6 r7 r8 r9 r10 r11 r12 r13 p0 p1 p2 p3 p4 p5 p6 p7 w0c hbC hxC o2 TMB RB hbrB lB hbY HWR
          generalize wC.heap.size = gC at *
          generalize wC.alloc (.cells #[.int .i64 (a + c * l + (Q : Int)), .slice X2 E.length c2] 56) = wD at *
          obtain ⟨z0, z1, -, -⟩ := id ZC
          go_upto_region 21 with (at_builtin; refine wpList_rowS _ rfl (.tmp 109) (.tmp 111) _ _ rfl w1.heap.size 2 32 56 (.agg #[.int .i64 0, .slice none 0 0]) Tryz.underlying32 wri_info rfl _ wr2.length (gvs wr2) rfl (World.ownsRow.alloc TMC.oW.1 _) _ 1 _ rfl (nwt.src_got (P := Tryz.prog) (heap_alloc_new wD _) Tryz.underlying32 (by simp [Value.oneCell'])) (by unfold maxLen; omega) (by omega) (by simp; omega) ?_; intro vE wE hE hgE hdE)
          have TME := (TMC.below (bl wD (.cells #[.int .i64 (a + c * l + (Q : Int)), .slice X2 E.length c2] 56))).growW (r := ⟨a + c * l + (Q : Int), X2, c2, E⟩) (o3.below (bl wD _)) hE hgE hdE
          have hbrE := hbrC.trans (((Below.refl (w.heap.size + 1) wD).alloc (by omega) (.cells #[.int .i64 (a + c * l + (Q : Int)), .slice X2 E.length c2] 56)).grown hgE (by simp; omega) (fun q hq => by have := TMC.oW.far q hq; omega))
          have lE : w1.heap.size ≤ wE.heap.size := by have := hgE.size; simp at this; omega
          go_wp2_with fail
          go_roundw
          case rel => exact ⟨1, wr2 ++ [⟨a + c * l + (Q : Int), X2, c2, E⟩], by omega, by go_num, by rw [gds_append, HG2.out]; simp only [List.take_zero, wrK, List.map_nil, List.append_nil]; exact congrArg _ HWK.out.symm, by rw [List.length_append]; exact Nat.add_le_add hwl2 (Nat.le_refl 1), TME, hbrE, lE⟩
          case measure => simp [RowKit.intOf]; omega
         ·obtain rfl : i = N := by omega
          obtain ⟨AV9, cV9, hvV, -, -, -⟩ := row_form TMB.oW.1
          obtain ⟨AI9, cI9, hvI, -, -, -⟩ := row_form TMB.oI.1
          have hln : ¬ ((i : Int) < (i : Int)) := by omega
          subst hvV hvI
          have hk1 : k + 1 ≤ 30 := by have := HNM.out; omega
          have HGL := Lib.hid (show gds wr2 = t.ws ++ wrK l a (Q : Int) R V by rw [HG2.out, List.take_of_length_le (by have := HN.out; omega)])
          go_wp2_with fail
          go_roundw
          case rel => exact ⟨k + 1, ⟨R.nm, t.ims ++ imgO R, t.ws ++ wrK l a (Q : Int) R V, 1⟩, AI9, cI9, irs2, AV9, cV9, wr2, hk1, by go_num, rfl, HS2.out, rfl, .inr ⟨by omega, by have := HNM.out; show ((k + 1 : Nat) : Int) ≤ R.nm; omega, HNM.out.1, HNM.out.2.1⟩, TMB.P, HI2.out, HGL.out, hil2, by omega, TMB.oI, TMB.oW, hbrB, lB⟩
          case measure => simp [RowKit.intOf]; omega
end Go.Proofs.YtbfdpibjicjagaaGreatDoor.scn
namespace Go.Proofs.YtbfdpibjicjagaaGreatDoor.scn
open Go.RowKit Go.Lib
open Go.Proofs.YtbfdpibjicjagaaGreatDoor.gmt (Ok)
open Go.Proofs.YtbfdpibjicjagaaGreatDoor.anc (AV AC ac_new bl kal kst ks bm ka row_apart row_form)
open Go.Proofs.YtbfdpibjicjagaaGreatDoor.tbl (G5 g5_new)
open Go.Proofs.YtbfdpibjicjagaaGreatDoor.lrc (Rcd)
open Go.Proofs.YtbfdpibjicjagaaGreatDoor.nwt (GV GotR gvs gds gds_append gds_length gvs_length)
open Go.Proofs.YtbfdpibjicjagaaGreatDoor.rng (XV TxR Txd tds tvs tds_append tds_length OwnT ownT_nil ownT_in tx_info src_txn OwnI.kept u8_txn img_txn)
open Go.Proofs.YtbfdpibjicjagaaGreatDoor.img
theorem scanA_none (v : Int) (base : Nat) (w : World) : ScanA base ([], [], v) (.returned (.tuple #[.slice none 0 0, .slice none 0 0, .int .i64 v])) w :=
 ⟨⟨none, 0, []⟩, ⟨none, 0, []⟩, rfl, rfl, rfl, ⟨SlV.nil _ _ _, fun r hr => (by cases hr), Nat.le_refl _, Nat.zero_le _⟩, ⟨SlV.nil _ _ _, fun r hr => (by cases hr), Nat.le_refl _, Nat.zero_le _⟩, ownT_nil _ _, ownWr_nil _ _⟩
theorem txn_wri : 63 ≠ 56 := by decide
theorem wri_txn : 56 ≠ 63 := by decide
theorem OwnT.keptW {w w' : World} {base base' m : Nat} {v u : Value} {ts : List TxR} {ys : List Value} (h : OwnT w base v ts) (hu : w.ownsRow base' 56 2 u m ys) (hg : w.grownBy w' u.ownBlock) : OwnT w' base v ts :=
 ⟨World.ownsRow.kept h.1 hg (row_apart h.1 hu txn_wri), fun r hr => OwnI.kept (h.2 r hr) hg (row_apart (h.2 r hr).1 hu img_wri) fun q hq => row_apart ((h.2 r hr).2 q hq) hu u8_wri⟩
theorem OwnWr.keptT {w w' : World} {base base' m : Nat} {v u : Value} {rs : List GotR} {ys : List Value} (h : OwnWr w base v rs) (hu : w.ownsRow base' 63 4 u m ys) (hg : w.grownBy w' u.ownBlock) : OwnWr w' base v rs :=
 h.kept hg (row_apart h.1 hu wri_txn) fun r hr => row_apart (h.2 r hr) hu u8_txn
theorem ownWr_sl {w : World} {base n c : Nat} {A : Option Addr} {rs : List GotR} (h : OwnWr w base (.slice A n c) rs) : SlV w w.heap.size A (gvs rs) := by
 obtain ⟨A', c', hv, -, -, hs⟩ := row_form h.1
 simp only [Value.slice.injEq] at hv
 obtain ⟨rfl, -, -⟩ := hv
 exact hs
theorem row_ne {w : World} {base k n q : Nat} {e : TypeId} {v : Value} {xs : List Value} (h : w.ownsRow base e k v n xs) (hq : w.heap.size ≤ q) : v.ownBlock ≠ some q := fun e => by
 have := (World.ownsRow.lt h q e).2
 omega
theorem txnS_nm {K0 K1 : Int → Option Rcd} {z d l a ep last pos sq left : Int} (h0 : KOk z d K0) (h1 : KOk z d K1) (h : (txnS K0 K1 l a ep last pos sq left).how = 1) : 2 ≤ (txnS K0 K1 l a ep last pos sq left).nm ∧ (txnS K0 K1 l a ep last pos sq left).nm ≤ left := by
 rcases txnS_dec (l := l) (a := a) (ep := ep) (last := last) (pos := pos) (sq := sq) (left := left) h0 h1 with ⟨k, -⟩ | ⟨m, R, V, k1, k2, k3, -, -, e⟩
 ·omega
 ·rw [e]
  show (2 : Int) ≤ m ∧ (m : Int) ≤ left
  omega
theorem txnS_how {K0 K1 : Int → Option Rcd} {z d l a ep last pos sq left : Int} (h0 : KOk z d K0) (h1 : KOk z d K1) : (txnS K0 K1 l a ep last pos sq left).how = 1 ∨ (txnS K0 K1 l a ep last pos sq left).how = 2 ∨ (txnS K0 K1 l a ep last pos sq left).how = 3 := by
 rcases txnS_dec (l := l) (a := a) (ep := ep) (last := last) (pos := pos) (sq := sq) (left := left) h0 h1 with ⟨k, -⟩ | ⟨m, R, V, k1, k2, k3, -, -, e⟩
 ·exact .inr k
 ·rw [e]
  exact .inl rfl
theorem scan_main (z d s l a : Int) (x : AV) (bF oF fc bS oS sc n m : Nat) (K0 K1 : Int → Option Rcd) (w : World) (ho : Ok z d s l a) (hn : (n : Int) = l) (hm : (m : Int) = l) (hp : 0 ≤ x.pos ∧ x.pos < l) (hsq : 0 ≤ x.seq ∧ x.seq ≤ 4294967295) (h0 : KOk z d K0) (h1 : KOk z d K1)
  (cA : ∀ W, Below w.heap.size w W → Calls Tryz.prog 29 #[.agg #[.int .i64 z, .int .i64 d, .int .i64 s, .int .i64 l, .int .i64 a], .agg #[.int .i64 x.gen, .int .i64 x.ep, .int .i64 x.pos, .int .i64 x.seq, .int .i64 x.last, .string x.lab, .slice x.HA x.hs.length x.hc]] W fun e w' => e = .returned (.int .i64 0) ∧ Below W.heap.size W w')
  (cT : ∀ (pos sq left : Int) W, Below w.heap.size w W → 0 ≤ pos ∧ pos < l → left ≤ 30 → Calls Tryz.prog 30 #[.agg #[.int .i64 z, .int .i64 d, .int .i64 s, .int .i64 l, .int .i64 a, .int .i64 x.gen, .int .i64 x.ep, .int .i64 x.pos, .int .i64 x.seq, .int .i64 x.last, .string x.lab, .slice x.HA x.hs.length x.hc, .slice (some ⟨bF, oF, none⟩) n fc, .slice (some ⟨bS, oS, none⟩) m sc], .int .i64 pos, .int .i64 sq, .int .i64 left] W fun e w' => TxnA W.heap.size sq pos (txnS K0 K1 l a x.ep x.last pos sq left) e w' ∧ Below W.heap.size W w') :
  Calls Tryz.prog 13 #[.agg #[.int .i64 z, .int .i64 d, .int .i64 s, .int .i64 l, .int .i64 a], .agg #[.int .i64 x.gen, .int .i64 x.ep, .int .i64 x.pos, .int .i64 x.seq, .int .i64 x.last, .string x.lab, .slice x.HA x.hs.length x.hc], .slice (some ⟨bF, oF, none⟩) n fc, .slice (some ⟨bS, oS, none⟩) m sc] w fun e w' => ScanA w.heap.size (scanK K0 K1 l a x.ep x.last x.pos x.seq) e w' ∧ Below w.heap.size w w' := by
 have s1 : (w.alloc (.cells #[.int .i64 z, .int .i64 d, .int .i64 s, .int .i64 l, .int .i64 a] 23)).heap.size = w.heap.size + 1 := by simp
 have GG := (g5_new w z d s l a).keep (bl (w.alloc (.cells #[.int .i64 z, .int .i64 d, .int .i64 s, .int .i64 l, .int .i64 a] 23)) (.cells #[.int .i64 x.gen, .int .i64 x.ep, .int .i64 x.pos, .int .i64 x.seq, .int .i64 x.last, .string x.lab, .slice x.HA x.hs.length x.hc] 26)) (by simp)
 have FF := ac_new (w.alloc (.cells #[.int .i64 z, .int .i64 d, .int .i64 s, .int .i64 l, .int .i64 a] 23)) x
 rw [s1] at FF
 have hw := kal (bl w (.cells #[.int .i64 z, .int .i64 d, .int .i64 s, .int .i64 l, .int .i64 a] 23)) (.cells #[.int .i64 x.gen, .int .i64 x.ep, .int .i64 x.pos, .int .i64 x.seq, .int .i64 x.last, .string x.lab, .slice x.HA x.hs.length x.hc] 26)
 have l0 : w.heap.size + 1 < ((w.alloc (.cells #[.int .i64 z, .int .i64 d, .int .i64 s, .int .i64 l, .int .i64 a] 23)).alloc (.cells #[.int .i64 x.gen, .int .i64 x.ep, .int .i64 x.pos, .int .i64 x.seq, .int .i64 x.last, .string x.lab, .slice x.HA x.hs.length x.hc] 26)).heap.size := by simp
 have hll : 14 ≤ l ∧ l ≤ 30 := ho.2.2.2.1
 have HCA := Lib.hid cA
 have HCT := Lib.hid cT
 have HNM := Lib.hid (fun (pos sq left : Int) => txnS_nm (l := l) (a := a) (ep := x.ep) (last := x.last) (pos := pos) (sq := sq) (left := left) h0 h1)
 have HHW := Lib.hid (fun (pos sq left : Int) => txnS_how (l := l) (a := a) (ep := x.ep) (last := x.last) (pos := pos) (sq := sq) (left := left) h0 h1)
 obtain ⟨S0, hS0⟩ : ∃ S0, S0 = scanK K0 K1 l a x.ep x.last x.pos x.seq := ⟨_, rfl⟩
 rw [← hS0]
 have HS0 := Lib.hid hS0
 clear s1 ho cA cT h0 h1 hS0
 go_enter Tryz.func13, Tryz.ntmps13
 go_upto_region 1 with fail
 generalize (w.alloc (.cells #[.int .i64 z, .int .i64 d, .int .i64 s, .int .i64 l, .int .i64 a] 23)).alloc (.cells #[.int .i64 x.gen, .int .i64 x.ep, .int .i64 x.pos, .int .i64 x.seq, .int .i64 x.last, .string x.lab, .slice x.HA x.hs.length x.hc] 26) = w0 at *
 obtain ⟨c0, c1, c2, c3, c4, c5, c6⟩ := id FF
 obtain ⟨g0, g1, g2, g3, g4⟩ := id GG
 go_upto_region 4 with (go_at_call 29; (with_reducible refine (HCA.out w0 hw).mono ?_); rintro e w1 ⟨rfl, hb1⟩)
 have G1 := GG.keep hb1 (by omega)
 have F1 := FF.keep hb1 l0
 have hw1 := bt hw hb1
 have l1 := Nat.lt_of_lt_of_le l0 hb1.size
 clear c0 c1 c2 c3 c4 c5 c6 g0 g1 g2 g3 g4 GG FF hw l0 hb1
 obtain ⟨c0, c1, c2, c3, c4, c5, c6⟩ := id F1
 obtain ⟨g0, g1, g2, g3, g4⟩ := id G1
 have n1 : ((n : Int) != l) = false := by rw [hn]; exact bne_self_eq_false _
 have n2 : ((m : Int) != l) = false := by rw [hm]; exact bne_self_eq_false _
 go_upto_region 7 with fail
 have R2 := r14_new w1 z d s l a x (some ⟨bF, oF, none⟩) fc (some ⟨bS, oS, none⟩) sc n m
 have k2 := bl w1 (.cells #[.int .i64 z, .int .i64 d, .int .i64 s, .int .i64 l, .int .i64 a, .int .i64 x.gen, .int .i64 x.ep, .int .i64 x.pos, .int .i64 x.seq, .int .i64 x.last, .string x.lab, .slice x.HA x.hs.length x.hc, .slice (some ⟨bF, oF, none⟩) n fc, .slice (some ⟨bS, oS, none⟩) m sc] 72)
 have G2 := G1.keep k2 (by omega)
 have F2 := F1.keep k2 l1
 have hw2 := bt hw1 k2
 have l2 : w1.heap.size < (w1.alloc (.cells #[.int .i64 z, .int .i64 d, .int .i64 s, .int .i64 l, .int .i64 a, .int .i64 x.gen, .int .i64 x.ep, .int .i64 x.pos, .int .i64 x.seq, .int .i64 x.last, .string x.lab, .slice x.HA x.hs.length x.hc, .slice (some ⟨bF, oF, none⟩) n fc, .slice (some ⟨bS, oS, none⟩) m sc] 72)).heap.size := by simp
 clear c0 c1 c2 c3 c4 c5 c6 g0 g1 g2 g3 g4 G1 F1 k2 n1 n2
 generalize hg1 : w1.heap.size = gR at *
 generalize w1.alloc (.cells #[.int .i64 z, .int .i64 d, .int .i64 s, .int .i64 l, .int .i64 a, .int .i64 x.gen, .int .i64 x.ep, .int .i64 x.pos, .int .i64 x.seq, .int .i64 x.last, .string x.lab, .slice x.HA x.hs.length x.hc, .slice (some ⟨bF, oF, none⟩) n fc, .slice (some ⟨bS, oS, none⟩) m sc] 72) = w2 at *
 obtain ⟨c0, c1, c2, c3, c4, c5, c6⟩ := id F2
 obtain ⟨g0, g1, g2, g3, g4⟩ := id G2
 go_quiet (fail)
 have HMR := Lib.hid (show ∀ W, Below w2.heap.size w2 W → R14 W gR z d s l a x (some ⟨bF, oF, none⟩) fc (some ⟨bS, oS, none⟩) sc n m ∧ AC W (w.heap.size + 1) x from fun W hW => ⟨R2.keep hW l2, F2.keep hW (by omega)⟩)
 clear c0 c1 c2 c3 c4 c5 c6 g0 g1 g2 g3 g4 R2 F2 G2
 have HW2 := Lib.hid hw2
 have lw2 : w.heap.size ≤ w2.heap.size := hw2.size
 clear hw2
 go_upto_region 8 with fail
 go_loopw [8, 9, 13, 14, 15] (fun v u p q e w' => ∃ (N : Nat) (ps sq lf : Int) (ts : List TxR) (rs : List GotR), p = .int .i64 ps ∧ q = .int .i64 sq ∧ e = .int .i64 lf ∧ S0 = runS K0 K1 l a x.ep x.last N ps sq lf (tds ts) (gds rs) ∧ (0 ≤ ps ∧ ps < l) ∧ (0 ≤ sq ∧ sq ≤ 4294967296) ∧ lf < N ∧ lf ≤ 30 ∧ 0 ≤ lf ∧ ts.length + lf.toNat ≤ 30 ∧ rs.length ≤ 31 * ts.length ∧ OwnT w' w2.heap.size v ts ∧ OwnWr w' w2.heap.size u rs ∧ Below w2.heap.size w2 w') (fun _ _ _ _ e _ => (RowKit.intOf e).toNat)
 case atStart => exact ⟨31, x.pos, x.seq, l, [], [], rfl, rfl, rfl, HS0.out, hp, by omega, by omega, by omega, by omega, by simp; omega, by simp, ownT_nil _ _, ownWr_nil _ _, below_dn (Below.refl _ _) _⟩
 case round =>
  obtain ⟨w5, rfl⟩ : ∃ y, y = wr := ⟨wr, rfl⟩
  obtain ⟨N, ps, sq, lf, ts, rs, rfl, rfl, rfl, hS, hps, hsq2, hlN, hlf, hlf0, htl, hrl, hOT, hOW, hbr⟩ := hrel
  have HSN := Lib.hid hS
  have lw := hbr.size
  obtain ⟨R5, F5⟩ := HMR.out w5 hbr
  have hw5 : Below w.heap.size w w5 := HW2.out.trans (hbr.mono lw2)
  clear hS HS0 hp hsq
  go_upto_region 8 with fail
  go_cut [53] from 94 (fun v wc => (∃ c : Bool, v = .bool c ∧ (c = true ↔ 0 < lf ∧ sq ≤ 4294967295)) ∧ wc = w5)
  case first =>
   by_cases q1 : 0 < lf
   ·by_cases q2 : sq ≤ 4294967295
    ·have H1 := Lib.hid (And.intro q1 q2)
     go_wp2_with fail
     go_meet
     case rel => exact ⟨⟨true, rfl, fun _ => H1.out, fun _ => rfl⟩, rfl⟩
    ·have H1 := Lib.hid q2
     go_wp2_with fail
     go_meet
     case rel => exact ⟨⟨false, rfl, fun h => absurd h Bool.false_ne_true, fun h => absurd h.2 (by have := H1.out; omega)⟩, rfl⟩
   ·have H1 := Lib.hid q1
    go_wp2_with fail
    go_meet
    case rel => exact ⟨⟨false, rfl, fun h => absurd h Bool.false_ne_true, fun h => absurd h.1 (by have := H1.out; omega)⟩, rfl⟩
  case rest =>
   obtain ⟨⟨c, rfl, hc⟩, hwc⟩ := hcut
   have hwc2 := hwc.symm
   clear hwc
   subst hwc2
   have HC := Lib.hid hc
   clear hc
   obtain ⟨c0, c1, c2, c3, c4, c5, c6⟩ := id F5
   cases c
   case false =>
    have hfi : S0 = finS x.last sq (tds ts) (gds rs) := by rw [HSN.out]; exact runS_end (.inl fun h => absurd (HC.out.2 h) Bool.false_ne_true)
    have HFI := Lib.hid hfi
    clear hfi
    obtain ⟨TA, tc, hvT, hTin⟩ := ownT_in hOT
    obtain ⟨G, hvG, hGr, hGin, hGo⟩ := ownWr_gv hOW
    subst hvT hvG
    have HGR := Lib.hid hGr
    clear hGr
    have u1 : IntKind.i64.wrap (sq - 1) = sq - 1 := IntWalk.i64_in _ (by omega)
    by_cases hl9 : sq - 1 < x.last
    ·have HE := Lib.hid (show S0 = ([], [], 12) by rw [HFI.out]; unfold finS; rw [if_pos hl9])
     go_wp2_with fail
     exact bodyPost_ret (v := .tuple #[.slice none 0 0, .slice none 0 0, .int .i64 12]) (by simp [results, Tryz.results13, go_sem]) rfl ⟨by rw [HE.out]; exact scanA_none _ _ _, hw5⟩
    ·have HE := Lib.hid (show S0 = (tds ts, gds rs, 0) by rw [HFI.out]; unfold finS; rw [if_neg hl9])
     go_wp2_with fail
     exact bodyPost_ret (v := .tuple #[.slice TA ts.length tc, .slice G.A G.rs.length G.c, .int .i64 0]) (by simp [results, Tryz.results13, go_sem]) rfl ⟨by rw [HE.out]; exact ⟨⟨TA, tc, ts⟩, G, rfl, rfl, congrArg gds HGR.out, hTin, hGin, hOT.less lw2, hGo.less lw2⟩, hw5⟩
   case true =>
    have hcd := HC.out.1 rfl
    obtain ⟨N, rfl⟩ : ∃ q, N = q + 1 := ⟨N - 1, by omega⟩
    have hun : S0 = (if (txnS K0 K1 l a x.ep x.last ps sq lf).how = 3 then ([], [], 12) else if (txnS K0 K1 l a x.ep x.last ps sq lf).how = 2 then finS x.last sq (tds ts) (gds rs) else
      runS K0 K1 l a x.ep x.last N ((ps + (txnS K0 K1 l a x.ep x.last ps sq lf).nm) % l) (sq + 1) (lf - (txnS K0 K1 l a x.ep x.last ps sq lf).nm) (tds ts ++ [⟨sq, ps, (txnS K0 K1 l a x.ep x.last ps sq lf).nm, (txnS K0 K1 l a x.ep x.last ps sq lf).ims⟩]) (gds rs ++ (txnS K0 K1 l a x.ep x.last ps sq lf).ws)) := by
     rw [HSN.out, runS, if_pos hcd]
    have hnm := HNM.out ps sq lf
    have hhw := HHW.out ps sq lf
    have HTX := Lib.hid (HCT.out ps sq lf w5 hw5 hps hlf)
    generalize txnS K0 K1 l a x.ep x.last ps sq lf = U at *
    have HUN := Lib.hid hun
    have HNU := Lib.hid hnm
    clear HC hun hnm HSN
    obtain ⟨r0, r1, r2, r3, r4, r5, r6, r7, r8, r9, r10, r11, r12, r13⟩ := id R5
    clear c0 c1 c2 c3 c4 c5 c6
    go_upto_region 9 with fail
    rcases hhw with h | h | h
    case inr.inr =>
     have HT3 := Lib.hid (show Calls Tryz.prog 30 #[.agg #[.int .i64 z, .int .i64 d, .int .i64 s, .int .i64 l, .int .i64 a, .int .i64 x.gen, .int .i64 x.ep, .int .i64 x.pos, .int .i64 x.seq, .int .i64 x.last, .string x.lab, .slice x.HA x.hs.length x.hc, .slice (some ⟨bF, oF, none⟩) n fc, .slice (some ⟨bS, oS, none⟩) m sc], .int .i64 ps, .int .i64 sq, .int .i64 lf] w5 fun e w' => e = .returned (.tuple #[.agg #[.int .i64 0, .int .i64 0, .int .i64 0, .slice none 0 0], .slice none 0 0, .int .i64 12]) ∧ Below w5.heap.size w5 w' from HTX.out.mono fun e w' q => ⟨by
      rcases q.1 with ⟨k, -⟩ | ⟨k, -⟩ | ⟨-, k⟩
      ·omega
      ·omega
      ·exact k, q.2⟩)
     have HE := Lib.hid (show S0 = ([], [], 12) by rw [HUN.out, if_pos h])
     go_wp2_with (go_at_call 30; (with_reducible refine HT3.out.mono ?_); rintro e w6 ⟨rfl, hb6⟩)
     exact bodyPost_ret (v := .tuple #[.slice none 0 0, .slice none 0 0, .int .i64 12]) (by simp [results, Tryz.results13, go_sem]) rfl ⟨by rw [HE.out]; exact scanA_none _ _ _, kal (bt hw5 hb6) _⟩
    case inr.inl =>
     have HT3 := Lib.hid (show Calls Tryz.prog 30 #[.agg #[.int .i64 z, .int .i64 d, .int .i64 s, .int .i64 l, .int .i64 a, .int .i64 x.gen, .int .i64 x.ep, .int .i64 x.pos, .int .i64 x.seq, .int .i64 x.last, .string x.lab, .slice x.HA x.hs.length x.hc, .slice (some ⟨bF, oF, none⟩) n fc, .slice (some ⟨bS, oS, none⟩) m sc], .int .i64 ps, .int .i64 sq, .int .i64 lf] w5 fun e w' => e = .returned (.tuple #[.agg #[.int .i64 0, .int .i64 0, .int .i64 0, .slice none 0 0], .slice none 0 0, .int .i64 0]) ∧ Below w5.heap.size w5 w' from HTX.out.mono fun e w' q => ⟨by
      rcases q.1 with ⟨k, -⟩ | ⟨-, k⟩ | ⟨k, -⟩
      ·omega
      ·exact k
      ·omega, q.2⟩)
     go_upto_region 10 with (go_at_call 30; (with_reducible refine HT3.out.mono ?_); rintro e w6 ⟨rfl, hb6⟩)
     have hb7 := kal hb6 (.cells #[.int .i64 0, .int .i64 0, .int .i64 0, .slice none 0 0] 63)
     have F7 := F5.keep hb7 (by omega)
     have hw7 := bt hw5 hb7
     have P7 := rng.fou_new w6 (.int .i64 0) (.int .i64 0) (.int .i64 0) (.slice none 0 0) 63
     replace hOT := hOT.below hb7
     replace hOW := hOW.below hb7
     clear r0 r1 r2 r3 r4 r5 r6 r7 r8 r9 r10 r11 r12 r13 hb6
     generalize w6.heap.size = gT at *
     generalize w6.alloc (.cells #[.int .i64 0, .int .i64 0, .int .i64 0, .slice none 0 0] 63) = w7 at *
     have p2 := P7.c2
     obtain ⟨c0, c1, c2, c3, c4, c5, c6⟩ := id F7
     have hfi : S0 = finS x.last sq (tds ts) (gds rs) := by rw [HUN.out, if_neg (by omega), if_pos h]
     have HFI := Lib.hid hfi
     clear hfi
     obtain ⟨TA, tc, hvT, hTin⟩ := ownT_in hOT
     obtain ⟨G, hvG, hGr, hGin, hGo⟩ := ownWr_gv hOW
     subst hvT hvG
     have HGR := Lib.hid hGr
     clear hGr
     have u1 : IntKind.i64.wrap (sq - 1) = sq - 1 := IntWalk.i64_in _ (by omega)
     by_cases hl9 : sq - 1 < x.last
     ·have HE := Lib.hid (show S0 = ([], [], 12) by rw [HFI.out]; unfold finS; rw [if_pos hl9])
      go_wp2_with fail
      exact bodyPost_ret (v := .tuple #[.slice none 0 0, .slice none 0 0, .int .i64 12]) (by simp [results, Tryz.results13, go_sem]) rfl ⟨by rw [HE.out]; exact scanA_none _ _ _, hw7⟩
     ·have HE := Lib.hid (show S0 = (tds ts, gds rs, 0) by rw [HFI.out]; unfold finS; rw [if_neg hl9])
      go_wp2_with fail
      exact bodyPost_ret (v := .tuple #[.slice TA ts.length tc, .slice G.A G.rs.length G.c, .int .i64 0]) (by simp [results, Tryz.results13, go_sem]) rfl ⟨by rw [HE.out]; exact ⟨⟨TA, tc, ts⟩, G, rfl, rfl, congrArg gds HGR.out, hTin, hGin, hOT.less lw2, hGo.less lw2⟩, hw7⟩
    case inl =>
     have HT3 := Lib.hid (show Calls Tryz.prog 30 #[.agg #[.int .i64 z, .int .i64 d, .int .i64 s, .int .i64 l, .int .i64 a, .int .i64 x.gen, .int .i64 x.ep, .int .i64 x.pos, .int .i64 x.seq, .int .i64 x.last, .string x.lab, .slice x.HA x.hs.length x.hc, .slice (some ⟨bF, oF, none⟩) n fc, .slice (some ⟨bS, oS, none⟩) m sc], .int .i64 ps, .int .i64 sq, .int .i64 lf] w5 fun e w' => (∃ (IA : Option Addr) (ic : Nat) (irs : List ImR) (WA : Option Addr) (wk : Nat) (wrs : List GotR), e = .returned (.tuple #[.agg #[.int .i64 sq, .int .i64 ps, .int .i64 U.nm, .slice IA irs.length ic], .slice WA wrs.length wk, .int .i64 0]) ∧ ids irs = U.ims ∧ gds wrs = U.ws ∧ OwnI w' w5.heap.size (.slice IA irs.length ic) irs ∧ OwnWr w' w5.heap.size (.slice WA wrs.length wk) wrs ∧ irs.length ≤ 31 ∧ wrs.length ≤ 31) ∧ Below w5.heap.size w5 w' from HTX.out.mono fun e w' q => ⟨by
      rcases q.1 with ⟨-, k⟩ | ⟨k, -⟩ | ⟨k, -⟩
      ·exact k
      ·omega
      ·omega, q.2⟩)
     have hU := HUN.out
     rw [if_neg (by omega), if_neg (by omega)] at hU
     have HU := Lib.hid hU
     have hnu := HNU.out h
     clear hU HUN HNU HTX
     go_upto_region 10 with (go_at_call 30; (with_reducible refine HT3.out.mono ?_); rintro e w6 ⟨⟨IA, ic, irs, WA, wk, wrs, rfl, hids, hgds, oI, oW, hil, hwl⟩, hb6⟩)
     have hb7 := kal hb6 (.cells #[.int .i64 sq, .int .i64 ps, .int .i64 U.nm, .slice IA irs.length ic] 63)
     have F7 := F5.keep hb7 (by omega)
     have R7 := R5.keep hb7 (by omega)
     have hw7 := bt hw5 hb7
     have P7 := rng.fou_new w6 (.int .i64 sq) (.int .i64 ps) (.int .i64 U.nm) (.slice IA irs.length ic) 63
     have hT7 := hOT.below hb7
     have hW7 := hOW.below hb7
     have hnT := row_ne hOT.1 hb6.size
     have hnW := row_ne hOW.1 hb6.size
     have oI7 := (oI.below (bl w6 (.cells #[.int .i64 sq, .int .i64 ps, .int .i64 U.nm, .slice IA irs.length ic] 63))).less lw
     have oW7 := (oW.below (bl w6 (.cells #[.int .i64 sq, .int .i64 ps, .int .i64 U.nm, .slice IA irs.length ic] 63))).less lw
     have l7 := hb7.size
     have hg7 : w6.heap.size < (w6.alloc (.cells #[.int .i64 sq, .int .i64 ps, .int .i64 U.nm, .slice IA irs.length ic] 63)).heap.size := by simp
     have HID := Lib.hid hids
     have HGD := Lib.hid hgds
     have l67 : w2.heap.size ≤ w6.heap.size := Nat.le_trans lw hb6.size
     have hbr7 : Below w2.heap.size w2 (w6.alloc (.cells #[.int .i64 sq, .int .i64 ps, .int .i64 U.nm, .slice IA irs.length ic] 63)) := hbr.trans (hb7.mono lw)
     clear r0 r1 r2 r3 r4 r5 r6 r7 r8 r9 r10 r11 r12 r13 hOT hOW hb6 oI oW hids hgds R5 F5 HT3 hbr hb7
     generalize w6.heap.size = gT at *
     generalize w6.alloc (.cells #[.int .i64 sq, .int .i64 ps, .int .i64 U.nm, .slice IA irs.length ic] 63) = w7 at *
     obtain ⟨p0, p1, p2, p3, -, -, -, -⟩ := id P7
     have e0 : (U.nm == 0) = false := beq_eq_false_iff_ne.2 (by omega)
     go_upto_region 14 with (first
      | (at_builtin; refine wpList_rowS _ rfl (.tmp 69) (.tmp 71) _ _ rfl w2.heap.size 4 48 63 (.agg #[.int .i64 0, .int .i64 0, .int .i64 0, .slice none 0 0]) Tryz.underlying31 tx_info rfl _ ts.length (tvs ts) rfl (World.ownsRow.alloc hT7.1 _) _ 1 _ rfl (src_txn (P := Tryz.prog) (heap_alloc_new w7 _) Tryz.underlying31 (by simp [Value.oneCell'])) (by unfold maxLen; omega) (by omega) (by simp; omega) ?_; intro v8 w8 h8 hg8 hd8; have hT8 := (hT7.below (bl w7 (.cells #[.int .i64 sq, .int .i64 ps, .int .i64 U.nm, .slice IA irs.length ic] 63))).more (r := ⟨sq, ps, U.nm, IA, ic, irs⟩) hg8 (oI7.below (bl w7 (.cells #[.int .i64 sq, .int .i64 ps, .int .i64 U.nm, .slice IA irs.length ic] 63))) h8; have hW8 := (hW7.below (bl w7 (.cells #[.int .i64 sq, .int .i64 ps, .int .i64 U.nm, .slice IA irs.length ic] 63))).keptT (hT7.below (bl w7 (.cells #[.int .i64 sq, .int .i64 ps, .int .i64 U.nm, .slice IA irs.length ic] 63))).1 hg8; have oW8 := (oW7.below (bl w7 (.cells #[.int .i64 sq, .int .i64 ps, .int .i64 U.nm, .slice IA irs.length ic] 63))).keptT (hT7.below (bl w7 (.cells #[.int .i64 sq, .int .i64 ps, .int .i64 U.nm, .slice IA irs.length ic] 63))).1 hg8; have s8 := ownWr_sl oW8; have l8 : w2.heap.size ≤ w8.heap.size := (by have h9 := hg8.size; simp at h9; omega))
      | (at_builtin; refine wpList_rowS _ rfl (.tmp 73) (.tmp 74) _ _ rfl w2.heap.size 2 32 56 (.agg #[.int .i64 0, .slice none 0 0]) Tryz.underlying32 wri_info rfl _ rs.length (gvs rs) rfl hW8.1 _ wrs.length (gvs wrs) rfl (src_wrs s8 Tryz.underlying32 wk) (by unfold maxLen; omega) (by omega) l8 ?_; intro v9 w9 h9 hg9 hd9)
      | fail)
     have b8 : Below w2.heap.size w7 w8 := ((Below.refl w2.heap.size w7).alloc (by omega) (.cells #[.int .i64 sq, .int .i64 ps, .int .i64 U.nm, .slice IA irs.length ic] 63)).grown hg8 (by simp; omega) (fun q hq => (World.ownsRow.lt hT7.1 q hq).1)
     have b9 : Below w2.heap.size w8 w9 := (Below.refl w2.heap.size w8).grown hg9 l8 (fun q hq => hW8.far q hq)
     have hW9 := hW8.app hg9 oW8.2 h9
     have hT9 := OwnT.keptW hT8 hW8.1 hg9
     have hbr9 := hbr7.trans (b8.trans b9)
     have P8 := P7.keep (bl w7 (.cells #[.int .i64 sq, .int .i64 ps, .int .i64 U.nm, .slice IA irs.length ic] 63)) hg7
     have P9 := (P8.grown hg8 (fun e => hnT e.symm)).grown hg9 (fun e => hnW e.symm)
     have HBH := Lib.hid (fun W => behind_c z d s l a x (some ⟨bF, oF, none⟩) fc (some ⟨bS, oS, none⟩) sc n m ps U.nm ((ps + U.nm) % l) W hll (by omega) (by omega) rfl)
     obtain ⟨R9, -⟩ := HMR.out w9 hbr9
     obtain ⟨r0, r1, r2, r3, r4, r5, r6, r7, r8, r9, r10, r11, r12, r13⟩ := id R9
     clear p0 p1 p2 p3 F7
     obtain ⟨p0, p1, p2, p3, -, -, -, -⟩ := id P9
     go_upto_region 15 with (go_at_call 31; (with_reducible refine (HBH.out w9).mono ?_); rintro e wA ⟨rfl, hbA⟩)
     have hgA : gT < w9.heap.size := P9.lt
     have PA := P9.keep hbA hgA
     clear p0 p1 p2 p3 r0 r1 r2 r3 r4 r5 r6 r7 r8 r9 r10 r11 r12 r13
     obtain ⟨p0, p1, p2, p3, -, -, -, -⟩ := id PA
     have hTA := hT9.below hbA
     have hWA := hW9.below hbA
     have hbrA := hbr9.trans (hbA.mono hbr9.size)
     have hS9 : S0 = runS K0 K1 l a x.ep x.last N ((ps + U.nm) % l) (sq + 1) (lf - U.nm) (tds (ts ++ [⟨sq, ps, U.nm, IA, ic, irs⟩])) (gds (rs ++ wrs)) := by
      rw [HU.out, tds_append, gds_append, HGD.out, ← HID.out]
      rfl
     have HS9 := Lib.hid hS9
     have hmod : 0 ≤ (ps + U.nm) % l ∧ (ps + U.nm) % l < l := ⟨Int.emod_nonneg _ (by omega), Int.emod_lt_of_pos _ (by omega)⟩
     have u1 : IntKind.i64.wrap (sq + 1) = sq + 1 := IntWalk.i64_in _ (by omega)
     have u2 : IntKind.i64.wrap (lf - U.nm) = lf - U.nm := IntWalk.i64_in _ (by omega)
     clear hS9
     go_wp2_with fail
     go_roundw
     case rel => exact ⟨N, (ps + U.nm) % l, sq + 1, lf - U.nm, ts ++ [⟨sq, ps, U.nm, IA, ic, irs⟩], rs ++ wrs, rfl, rfl, rfl, HS9.out, hmod, by omega, by omega, by omega, by omega, by rw [List.length_append]; show ts.length + 1 + _ ≤ 30; omega, by rw [List.length_append, List.length_append]; show _ ≤ 31 * (ts.length + 1); omega, hTA, hWA, hbrA⟩
     case measure => simp [RowKit.intOf]; omega
end Go.Proofs.YtbfdpibjicjagaaGreatDoor.scn
namespace Go.Proofs.YtbfdpibjicjagaaGreatDoor.scn
open Go.RowKit Go.Lib
open Go.Proofs.YtbfdpibjicjagaaGreatDoor.gmt (Ok)
open Go.Proofs.YtbfdpibjicjagaaGreatDoor.anc (AV AC ac_new bl kal kst ks bm ka tn)
open Go.Proofs.YtbfdpibjicjagaaGreatDoor.tbl (G5 g5_new)
open Go.Proofs.YtbfdpibjicjagaaGreatDoor.lrc (Rcd noRec RecOk cellN)
open Go.Proofs.YtbfdpibjicjagaaGreatDoor.nwt (GV GotR gvs gds)
open Go.Proofs.YtbfdpibjicjagaaGreatDoor.prr (SayOk sayR OneR lookR lookW lookH LookO look_o Gt)
theorem scan_err (z d s l a : Int) (x : AV) (fA : Option Addr) (fc : Nat) (sA : Option Addr) (sc n m : Nat) (v : Int) (w : World) (hv : v ≠ 0) (cA : ∀ W, Below w.heap.size w W → Calls Tryz.prog 29 #[.agg #[.int .i64 z, .int .i64 d, .int .i64 s, .int .i64 l, .int .i64 a], .agg #[.int .i64 x.gen, .int .i64 x.ep, .int .i64 x.pos, .int .i64 x.seq, .int .i64 x.last, .string x.lab, .slice x.HA x.hs.length x.hc]] W fun e w' => e = .returned (.int .i64 v) ∧ Below W.heap.size W w') :
  Calls Tryz.prog 13 #[.agg #[.int .i64 z, .int .i64 d, .int .i64 s, .int .i64 l, .int .i64 a], .agg #[.int .i64 x.gen, .int .i64 x.ep, .int .i64 x.pos, .int .i64 x.seq, .int .i64 x.last, .string x.lab, .slice x.HA x.hs.length x.hc], .slice fA n fc, .slice sA m sc] w fun e w' => ScanA w.heap.size ([], [], v) e w' ∧ Below w.heap.size w w' := by
 have s1 : (w.alloc (.cells #[.int .i64 z, .int .i64 d, .int .i64 s, .int .i64 l, .int .i64 a] 23)).heap.size = w.heap.size + 1 := by simp
 have GG := (g5_new w z d s l a).keep (bl (w.alloc (.cells #[.int .i64 z, .int .i64 d, .int .i64 s, .int .i64 l, .int .i64 a] 23)) (.cells #[.int .i64 x.gen, .int .i64 x.ep, .int .i64 x.pos, .int .i64 x.seq, .int .i64 x.last, .string x.lab, .slice x.HA x.hs.length x.hc] 26)) (by simp)
 have FF := ac_new (w.alloc (.cells #[.int .i64 z, .int .i64 d, .int .i64 s, .int .i64 l, .int .i64 a] 23)) x
 rw [s1] at FF
 have hw := kal (bl w (.cells #[.int .i64 z, .int .i64 d, .int .i64 s, .int .i64 l, .int .i64 a] 23)) (.cells #[.int .i64 x.gen, .int .i64 x.ep, .int .i64 x.pos, .int .i64 x.seq, .int .i64 x.last, .string x.lab, .slice x.HA x.hs.length x.hc] 26)
 have l0 : w.heap.size + 1 < ((w.alloc (.cells #[.int .i64 z, .int .i64 d, .int .i64 s, .int .i64 l, .int .i64 a] 23)).alloc (.cells #[.int .i64 x.gen, .int .i64 x.ep, .int .i64 x.pos, .int .i64 x.seq, .int .i64 x.last, .string x.lab, .slice x.HA x.hs.length x.hc] 26)).heap.size := by simp
 have HCA := Lib.hid cA
 clear s1 cA
 go_enter Tryz.func13, Tryz.ntmps13
 go_upto_region 1 with fail
 generalize (w.alloc (.cells #[.int .i64 z, .int .i64 d, .int .i64 s, .int .i64 l, .int .i64 a] 23)).alloc (.cells #[.int .i64 x.gen, .int .i64 x.ep, .int .i64 x.pos, .int .i64 x.seq, .int .i64 x.last, .string x.lab, .slice x.HA x.hs.length x.hc] 26) = w0 at *
 obtain ⟨c0, c1, c2, c3, c4, c5, c6⟩ := id FF
 obtain ⟨g0, g1, g2, g3, g4⟩ := id GG
 have e1 : (v != 0) = true := bne_iff_ne.2 hv
 have HV := Lib.hid hv
 clear hv
 go_wp2_with (go_at_call 29; (with_reducible refine (HCA.out w0 hw).mono ?_); rintro e w1 ⟨rfl, hb1⟩)
 exact bodyPost_ret (v := .tuple #[.slice none 0 0, .slice none 0 0, .int .i64 v]) (by simp [results, Tryz.results13, go_sem]) rfl ⟨scanA_none _ _ _, bt hw hb1⟩
theorem scan_len1 (z d s l a : Int) (x : AV) (fA : Option Addr) (fc : Nat) (sA : Option Addr) (sc n m : Nat) (w : World) (h : ¬ (n : Int) = l) (cA : ∀ W, Below w.heap.size w W → Calls Tryz.prog 29 #[.agg #[.int .i64 z, .int .i64 d, .int .i64 s, .int .i64 l, .int .i64 a], .agg #[.int .i64 x.gen, .int .i64 x.ep, .int .i64 x.pos, .int .i64 x.seq, .int .i64 x.last, .string x.lab, .slice x.HA x.hs.length x.hc]] W fun e w' => e = .returned (.int .i64 0) ∧ Below W.heap.size W w') :
  Calls Tryz.prog 13 #[.agg #[.int .i64 z, .int .i64 d, .int .i64 s, .int .i64 l, .int .i64 a], .agg #[.int .i64 x.gen, .int .i64 x.ep, .int .i64 x.pos, .int .i64 x.seq, .int .i64 x.last, .string x.lab, .slice x.HA x.hs.length x.hc], .slice fA n fc, .slice sA m sc] w fun e w' => ScanA w.heap.size ([], [], 2) e w' ∧ Below w.heap.size w w' := by
 have s1 : (w.alloc (.cells #[.int .i64 z, .int .i64 d, .int .i64 s, .int .i64 l, .int .i64 a] 23)).heap.size = w.heap.size + 1 := by simp
 have GG := (g5_new w z d s l a).keep (bl (w.alloc (.cells #[.int .i64 z, .int .i64 d, .int .i64 s, .int .i64 l, .int .i64 a] 23)) (.cells #[.int .i64 x.gen, .int .i64 x.ep, .int .i64 x.pos, .int .i64 x.seq, .int .i64 x.last, .string x.lab, .slice x.HA x.hs.length x.hc] 26)) (by simp)
 have FF := ac_new (w.alloc (.cells #[.int .i64 z, .int .i64 d, .int .i64 s, .int .i64 l, .int .i64 a] 23)) x
 rw [s1] at FF
 have hw := kal (bl w (.cells #[.int .i64 z, .int .i64 d, .int .i64 s, .int .i64 l, .int .i64 a] 23)) (.cells #[.int .i64 x.gen, .int .i64 x.ep, .int .i64 x.pos, .int .i64 x.seq, .int .i64 x.last, .string x.lab, .slice x.HA x.hs.length x.hc] 26)
 have l0 : w.heap.size + 1 < ((w.alloc (.cells #[.int .i64 z, .int .i64 d, .int .i64 s, .int .i64 l, .int .i64 a] 23)).alloc (.cells #[.int .i64 x.gen, .int .i64 x.ep, .int .i64 x.pos, .int .i64 x.seq, .int .i64 x.last, .string x.lab, .slice x.HA x.hs.length x.hc] 26)).heap.size := by simp
 have HCA := Lib.hid cA
 clear s1 cA
 go_enter Tryz.func13, Tryz.ntmps13
 go_upto_region 1 with fail
 generalize (w.alloc (.cells #[.int .i64 z, .int .i64 d, .int .i64 s, .int .i64 l, .int .i64 a] 23)).alloc (.cells #[.int .i64 x.gen, .int .i64 x.ep, .int .i64 x.pos, .int .i64 x.seq, .int .i64 x.last, .string x.lab, .slice x.HA x.hs.length x.hc] 26) = w0 at *
 obtain ⟨c0, c1, c2, c3, c4, c5, c6⟩ := id FF
 obtain ⟨g0, g1, g2, g3, g4⟩ := id GG
 have e1 : ((n : Int) != l) = true := bne_iff_ne.2 h
 go_wp2_with (go_at_call 29; (with_reducible refine (HCA.out w0 hw).mono ?_); rintro e w1 ⟨rfl, hb1⟩; obtain ⟨-, -, -, g9, -⟩ := GG.keep hb1 (by omega))
 exact bodyPost_ret (v := .tuple #[.slice none 0 0, .slice none 0 0, .int .i64 2]) (by simp [results, Tryz.results13, go_sem]) rfl ⟨scanA_none _ _ _, bt hw hb1⟩
theorem scan_len2 (z d s l a : Int) (x : AV) (fA : Option Addr) (fc : Nat) (sA : Option Addr) (sc n m : Nat) (w : World) (h0 : (n : Int) = l) (h : ¬ (m : Int) = l) (cA : ∀ W, Below w.heap.size w W → Calls Tryz.prog 29 #[.agg #[.int .i64 z, .int .i64 d, .int .i64 s, .int .i64 l, .int .i64 a], .agg #[.int .i64 x.gen, .int .i64 x.ep, .int .i64 x.pos, .int .i64 x.seq, .int .i64 x.last, .string x.lab, .slice x.HA x.hs.length x.hc]] W fun e w' => e = .returned (.int .i64 0) ∧ Below W.heap.size W w') :
  Calls Tryz.prog 13 #[.agg #[.int .i64 z, .int .i64 d, .int .i64 s, .int .i64 l, .int .i64 a], .agg #[.int .i64 x.gen, .int .i64 x.ep, .int .i64 x.pos, .int .i64 x.seq, .int .i64 x.last, .string x.lab, .slice x.HA x.hs.length x.hc], .slice fA n fc, .slice sA m sc] w fun e w' => ScanA w.heap.size ([], [], 2) e w' ∧ Below w.heap.size w w' := by
 have s1 : (w.alloc (.cells #[.int .i64 z, .int .i64 d, .int .i64 s, .int .i64 l, .int .i64 a] 23)).heap.size = w.heap.size + 1 := by simp
 have GG := (g5_new w z d s l a).keep (bl (w.alloc (.cells #[.int .i64 z, .int .i64 d, .int .i64 s, .int .i64 l, .int .i64 a] 23)) (.cells #[.int .i64 x.gen, .int .i64 x.ep, .int .i64 x.pos, .int .i64 x.seq, .int .i64 x.last, .string x.lab, .slice x.HA x.hs.length x.hc] 26)) (by simp)
 have FF := ac_new (w.alloc (.cells #[.int .i64 z, .int .i64 d, .int .i64 s, .int .i64 l, .int .i64 a] 23)) x
 rw [s1] at FF
 have hw := kal (bl w (.cells #[.int .i64 z, .int .i64 d, .int .i64 s, .int .i64 l, .int .i64 a] 23)) (.cells #[.int .i64 x.gen, .int .i64 x.ep, .int .i64 x.pos, .int .i64 x.seq, .int .i64 x.last, .string x.lab, .slice x.HA x.hs.length x.hc] 26)
 have l0 : w.heap.size + 1 < ((w.alloc (.cells #[.int .i64 z, .int .i64 d, .int .i64 s, .int .i64 l, .int .i64 a] 23)).alloc (.cells #[.int .i64 x.gen, .int .i64 x.ep, .int .i64 x.pos, .int .i64 x.seq, .int .i64 x.last, .string x.lab, .slice x.HA x.hs.length x.hc] 26)).heap.size := by simp
 have HCA := Lib.hid cA
 clear s1 cA
 go_enter Tryz.func13, Tryz.ntmps13
 go_upto_region 1 with fail
 generalize (w.alloc (.cells #[.int .i64 z, .int .i64 d, .int .i64 s, .int .i64 l, .int .i64 a] 23)).alloc (.cells #[.int .i64 x.gen, .int .i64 x.ep, .int .i64 x.pos, .int .i64 x.seq, .int .i64 x.last, .string x.lab, .slice x.HA x.hs.length x.hc] 26) = w0 at *
 obtain ⟨c0, c1, c2, c3, c4, c5, c6⟩ := id FF
 obtain ⟨g0, g1, g2, g3, g4⟩ := id GG
 have e0 : ((n : Int) != l) = false := by rw [h0]; exact bne_self_eq_false _
 have e1 : ((m : Int) != l) = true := bne_iff_ne.2 h
 clear h0
 go_wp2_with (go_at_call 29; (with_reducible refine (HCA.out w0 hw).mono ?_); rintro e w1 ⟨rfl, hb1⟩; obtain ⟨-, -, -, g9, -⟩ := GG.keep hb1 (by omega))
 exact bodyPost_ret (v := .tuple #[.slice none 0 0, .slice none 0 0, .int .i64 2]) (by simp [results, Tryz.results13, go_sem]) rfl ⟨scanA_none _ _ _, bt hw hb1⟩
theorem kOf_at {z d l a cp : Int} {F : List GotR} {Q : Nat} {x : GotR} (h : F[Q]? = some x) : kOf z d l a cp (gds F) (Q : Int) = sayK z d (x.e, x.l) (cellN l a cp (Q : Int)) := by
 unfold kOf
 have e : (gds F).getD (Q : Int).toNat (0, []) = (x.e, x.l) := by
  rw [show (Q : Int).toNat = Q from by omega, List.getD_eq_getElem?_getD]
  unfold gds
  rw [List.getElem?_map, h]
  rfl
 rw [e]
theorem sayK_is {z d : Int} {x : Rd} {addr : Nat} : (sayK z d x addr).isSome = true ↔ SayOk z d x.1 x.2 addr := by
 by_cases h : SayOk z d x.1 x.2 addr
 ·rw [sayK_some h]
  exact ⟨fun _ => h, fun _ => rfl⟩
 ·rw [sayK_none h]
  exact ⟨fun q => absurd q (by simp), fun q => absurd q h⟩
theorem oneK_is {z d : Int} {x : Rd} {addr : Nat} {ep last sq at' of left : Int} : oneK (sayK z d x addr) ep last sq at' of left = true ↔ (sayK z d x addr).isSome = true ∧ OneR (sayR x.2) ep last sq at' of left := by
 by_cases h : SayOk z d x.1 x.2 addr
 ·rw [sayK_some h]
  simp [oneK]
 ·rw [sayK_none h]
  simp [oneK]
theorem lookK_sayR {z d : Int} {x y : Rd} {p q : Nat} {ep last sq at' of left : Int} : lookK (sayK z d x p) (sayK z d y q) ep last sq at' of left = (lookR (oneK (sayK z d x p) ep last sq at' of left) (oneK (sayK z d y q) ep last sq at' of left) (sayR x.2) (sayR y.2), lookW (oneK (sayK z d x p) ep last sq at' of left) (oneK (sayK z d y q) ep last sq at' of left), lookH (sayK z d x p).isSome (sayK z d y q).isSome (oneK (sayK z d x p) ep last sq at' of left) (oneK (sayK z d y q) ep last sq at' of left)) := by
 by_cases h : SayOk z d x.1 x.2 p
 ·by_cases k : SayOk z d y.1 y.2 q
  ·rw [sayK_some h, sayK_some k]
   rfl
  ·rw [sayK_some h, sayK_none k]
   unfold lookK recK
   generalize oneK (some (sayR x.2)) ep last sq at' of left = b
   cases b <;> rfl
 ·by_cases k : SayOk z d y.1 y.2 q
  ·rw [sayK_none h, sayK_some k]
   rfl
  ·rw [sayK_none h, sayK_none k]
   rfl
theorem csc_any (hV : lbl.ValidOk) (w : World) (hT : lbl.Tabs w) : Csc w where
 scan := fun z d s l a x F S n m W hW ho hx hlab hgd hF hFn hFs hS hSm hSs hn hm => by
  have hll : 14 ≤ l ∧ l ≤ 30 := ho.2.2.2.1
  have hp : 0 ≤ x.pos ∧ x.pos ≤ l - 1 := hgd.2.2.2.2.2.1
  have hsq : 1 ≤ x.seq ∧ x.seq ≤ 4294967295 := hgd.2.2.1
  obtain ⟨FA, fc, Fr⟩ := F
  obtain ⟨SA, sc, Sr⟩ := S
  obtain ⟨bF, oF, hFA, -, -⟩ := hF.h (by rw [nwt.gvs_length]; have : Fr.length = n := hFn; show 0 < Fr.length * 2; omega)
  obtain ⟨bS, oS, hSA, -, -⟩ := hS.h (by rw [nwt.gvs_length]; have : Sr.length = m := hSm; show 0 < Sr.length * 2; omega)
  have hFA : FA = some ⟨bF, oF, none⟩ := hFA
  have hSA : SA = some ⟨bS, oS, none⟩ := hSA
  subst hFA hSA
  have hFn : Fr.length = n := hFn
  have hSm : Sr.length = m := hSm
  have hgt : ∀ {G : GV} {W' : World} {r : GotR}, G.In W' W'.heap.size → nwt.GShort 1048576 G.rs → r ∈ G.rs → Gt.In W' W'.heap.size ⟨r.e, r.A, r.c, r.l⟩ := fun hG hs hr => ⟨(hG.i _ hr).1, (hG.i _ hr).2.1, (hG.i _ hr).2.2, hs _ hr⟩
  refine scan_main z d s l a x bF oF fc bS oS sc n m (kOf z d l a 0 (gds Fr)) (kOf z d l a 1 (gds Sr)) W ho hn hm ⟨hp.1, by omega⟩ ⟨by omega, hsq.2⟩ (kOf_ok z d l a 0 (gds Fr)) (kOf_ok z d l a 1 (gds Sr)) ?_ ?_
  ·intro W2 hW2
   exact anc.check_p hV z d s l a true x W2 (tn hT (bt hW hW2)) ho (hx.next hW2) (by omega) (iff_of_true rfl hgd)
  ·intro pos sq left W2 hW2 hpos hleft
   have h9 := txn_c z d s l a x bF oF fc bS oS sc n m Fr Sr (lookS (kOf z d l a 0 (gds Fr)) (kOf z d l a 1 (gds Sr)) l x.ep x.last pos sq left) pos sq left W2 ho (hF.next hW2) (hS.next hW2) hFn hSm hn hm hpos hleft ?_ ?_ ?_ ?_
   ·exact h9
   ·intro k of Q x0 y0 R V H W3 hW3 hQ hx0 hy0 hL
    have hQl : (Q : Int) < l := by rw [← hQ]; exact Int.emod_lt_of_pos _ (by omega)
    have hL2 : lookK (sayK z d (x0.e, x0.l) (cellN l a 0 (Q : Int))) (sayK z d (y0.e, y0.l) (cellN l a 1 (Q : Int))) x.ep x.last sq k of left = (R, V, H) := by
     rw [← kOf_at hx0, ← kOf_at hy0, ← hQ]
     exact hL
    rw [lookK_sayR] at hL2
    have hR := congrArg (fun q => q.1) hL2
    have hV2 := congrArg (fun q => q.2.1) hL2
    have hH := congrArg (fun q => q.2.2) hL2
    dsimp only at hR hV2 hH
    rw [← hR, ← hV2, ← hH]
    exact look_o hV W3 (tn hT (bt hW (bt hW2 hW3))) (sayK z d (x0.e, x0.l) (cellN l a 0 (Q : Int))).isSome (sayK z d (y0.e, y0.l) (cellN l a 1 (Q : Int))).isSome (oneK (sayK z d (x0.e, x0.l) (cellN l a 0 (Q : Int))) x.ep x.last sq k of left) (oneK (sayK z d (y0.e, y0.l) (cellN l a 1 (Q : Int))) x.ep x.last sq k of left) z d s l a x ⟨x0.e, x0.A, x0.c, x0.l⟩ ⟨y0.e, y0.A, y0.c, y0.l⟩ x0.l.length y0.l.length (Q : Int) sq k of left W3 (Below.refl _ _) ho (hx.next (bt hW2 hW3)) hlab hgd ⟨by omega, by omega⟩ (hgt (G := ⟨some ⟨bF, oF, none⟩, fc, Fr⟩) (hF.next (bt hW2 hW3)) hFs (List.mem_of_getElem? hx0)) rfl (hgt (G := ⟨some ⟨bS, oS, none⟩, sc, Sr⟩) (hS.next (bt hW2 hW3)) hSs (List.mem_of_getElem? hy0)) rfl sayK_is sayK_is oneK_is oneK_is
   ·exact fun k of => lookK_how _ _ _ _ _ _ _ _
   ·exact fun k of => lookW_one _ _
   ·intro k of h
    have h1 := (lookK_one h).1
    have h2 := look_rec (kOf_ok z d l a 0 (gds Fr)) (kOf_ok z d l a 1 (gds Sr)) h
    refine ⟨h2, ?_, h1.2.2.2.2.1, h1.2.2.2.1⟩
    rcases h2 with q | q | q
    ·exact absurd q.1 h1.1
    ·exact q.1.2.2.1
    ·exact q.1.2.2.1
 scan_no := fun v z d s l a x F S n m W hW hx hlab hhs hF hFn hS hSm hn1 hm1 hv => by
  by_cases ho : Ok z d s l a
  case neg =>
   have hv1 : v = 1 := by rcases hv with q | q; exact q.2; exact absurd q.1.1 ho
   subst hv1
   exact scan_err z d s l a x F.A F.c S.A S.c n m 1 W (by decide) fun W2 hW2 => anc.checkA_no z d s l a x.v W2 ⟨x, rfl⟩ ho
  by_cases hg : anc.Good z d s l x.d
  case neg =>
   have hv1 : v = 1 := by rcases hv with q | q; exact q.2; exact absurd q.1.2 hg
   subst hv1
   exact scan_err z d s l a x F.A F.c S.A S.c n m 1 W (by decide) fun W2 hW2 => anc.check_p hV z d s l a false x W2 (tn hT (bt hW hW2)) ho (hx.next hW2) (by omega) (iff_of_false Bool.false_ne_true hg)
  have hv2 : v = 2 ∧ ¬ ((n : Int) = l ∧ (m : Int) = l) := by
   rcases hv with q | q
   ·exact absurd ⟨ho, hg⟩ q.1
   ·exact ⟨q.2.2, q.2.1⟩
  obtain ⟨rfl, hlen⟩ := hv2
  have cA : ∀ W2, Below W.heap.size W W2 → Calls Tryz.prog 29 #[.agg #[.int .i64 z, .int .i64 d, .int .i64 s, .int .i64 l, .int .i64 a], .agg #[.int .i64 x.gen, .int .i64 x.ep, .int .i64 x.pos, .int .i64 x.seq, .int .i64 x.last, .string x.lab, .slice x.HA x.hs.length x.hc]] W2 fun e w' => e = .returned (.int .i64 0) ∧ Below W2.heap.size W2 w' := fun W2 hW2 => anc.check_p hV z d s l a true x W2 (tn hT (bt hW hW2)) ho (hx.next hW2) (by omega) (iff_of_true rfl hg)
  by_cases h1 : (n : Int) = l
  ·exact scan_len2 z d s l a x F.A F.c S.A S.c n m W h1 (fun h2 => hlen ⟨h1, h2⟩) cA
  ·exact scan_len1 z d s l a x F.A F.c S.A S.c n m W h1 cA
end Go.Proofs.YtbfdpibjicjagaaGreatDoor.scn
