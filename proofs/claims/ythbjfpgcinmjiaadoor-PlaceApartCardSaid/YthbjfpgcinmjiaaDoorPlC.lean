/-
  Where a block is, how many spares are left, by the program and by the document. Conditions: as AnU's.
-/
import Derived.Test.YthbjfpgcinmjiaaDoorPlA
import Derived.Test.YthbjfpgcinmjiaaDoorGGm
import Derived.Test.YthbjfpgcinmjiaaDoorKeepInts
namespace Go.Proofs.YthbjfpgcinmjiaaDoor.plc
open Go.RowKit Go.Lib
open Go.Proofs.YthbjfpgcinmjiaaDoor.gmt (Ok five_new slot_at rslot_at w6)
open Go.Proofs.YthbjfpgcinmjiaaDoor.anc
open Go.Proofs.YthbjfpgcinmjiaaDoor.lbl (ValidOk CloneOk Tabs)

theorem told1 {R : Prop} {v why : Int} (h : R) : gmt.Told R v why v 0 := ⟨fun _ => ⟨rfl, rfl⟩, fun k => absurd h k⟩
/-- One place of a home as it lies. -/
theorem place_at {w : World} {B i : Nat} {r : HomR} {p : Int} (h : PIn w B r) (hp : r.ps[i]? = some p) : ∃ b off, r.A = some ⟨b, off, none⟩ ∧ b < B ∧ w.cell? ⟨b, off + i, none⟩ = some (.int .i64 p) ∧ i < r.ps.length := by
  obtain ⟨hi, rfl⟩ := List.getElem?_eq_some_iff.1 hp
  obtain ⟨b, off, he, hb, hc⟩ := h.1 (by rw [ints_length]; omega)
  refine ⟨b, off, he, hb, ?_, hi⟩
  rw [hc i (by rw [ints_length]; exact hi)]
  simp [ints]
set_option maxRecDepth 100000 in
theorem rat_any (z d s l a v : Int) (w : World) :
    Calls Tryd.prog 34 #[.agg #[.int .i64 z, .int .i64 d, .int .i64 s, .int .i64 l, .int .i64 a], .int .i64 v] w fun e w' => e = .returned (.int .i64 (atP d v)) ∧ Below w.heap.size w w' := by
  obtain ⟨g0, g1, g2, g3, g4⟩ := five_new w z d s l a
  have B0 := bl w (.cells #[.int .i64 z, .int .i64 d, .int .i64 s, .int .i64 l, .int .i64 a] 23)
  unfold atP
  by_cases h : v = -1
  · subst h
    rw [if_pos rfl]
    go_enter Tryd.func34, Tryd.ntmps34
    go_wp2
    go_ret
    exact ⟨rfl, B0⟩
  · rw [if_neg h]
    have h1 : (v == -1) = false := beq_eq_false_iff_ne.2 h
    go_enter Tryd.func34, Tryd.ntmps34
    go_wp2
    go_ret
    exact ⟨rfl, B0⟩
set_option maxRecDepth 100000 in
theorem rwhat_any (c : Bool) (z d s l a v : Int) (w : World) (ho : Ok z d s l a) (hc : c = true ↔ IsWhat d v) :
    Calls Tryd.prog 17 #[.agg #[.int .i64 z, .int .i64 d, .int .i64 s, .int .i64 l, .int .i64 a], .int .i64 v] w fun e w' => e = .returned (.bool c) ∧ Below w.heap.size w w' := by
  obtain ⟨-, o2, -⟩ := ho
  have cI := fun W => rin8_at c v (-1) (d - 1) W (hc.trans (by unfold IsWhat; omega))
  obtain ⟨g0, g1, g2, g3, g4⟩ := five_new w z d s l a
  have B0 := bl w (.cells #[.int .i64 z, .int .i64 d, .int .i64 s, .int .i64 l, .int .i64 a] 23)
  go_enter Tryd.func17, Tryd.ntmps17
  go_wp2_with (go_at_call 31; (with_reducible refine (cI _).mono ?_); rintro e w1 ⟨rfl, rfl⟩)
  go_ret
  exact ⟨rfl, B0⟩
/-- What is known of a block's place in a right anchor. -/
theorem place_in {z d s l : Int} {X : Anc} {J i : Nat} {h : Hom} {p : Int} (hg : anc.Good z d s l X) (hr : X.hs[J]? = some h) (hp : h.ps[i]? = some p) : (0 ≤ (J : Int) ∧ (J : Int) < z) ∧ (0 ≤ p ∧ p < d + 1 + s) ∧ (h.ps.length : Int) = d + 1 ∧ d + 1 ≤ h.nx ∧ h.nx ≤ d + 1 + s := by
  obtain ⟨hJ, -⟩ := List.getElem?_eq_some_iff.1 hr
  have h8 := hg.2.2.2.2.2.2.2.1
  obtain ⟨k1, k2, k3, k4⟩ := good_home hg hr
  obtain ⟨hi, rfl⟩ := List.getElem?_eq_some_iff.1 hp
  have := (k4 i hi).1
  exact ⟨⟨by omega, by omega⟩, ⟨by omega, by omega⟩, k1, k2.1, k2.2⟩
set_option maxRecDepth 100000 in
set_option maxHeartbeats 8000000 in
theorem addr_yes (hV : ValidOk) (z d s l a : Int) (x : AV) (J i : Nat) (v p : Int) (r : HomR) (w : World) (hT : Tabs w) (hlab : x.lab.size ≤ 4294967296) (hw : IsWhat d v) (ho : Ok z d s l a) (hx : x.In w w.heap.size) (hg : anc.Good z d s l x.d) (hr : x.hs[J]? = some r) (hi : atP d v = (i : Int)) (hp : r.ps[i]? = some p) :
    Calls Tryd.prog 8 #[.agg #[.int .i64 z, .int .i64 d, .int .i64 s, .int .i64 l, .int .i64 a], x.v, .int .i64 J, .int .i64 v] w fun e w' => e = .returned (.tuple #[.int .i64 (slotA z d s l a J p), .int .i64 0]) ∧ Below w.heap.size w w' := by
  obtain ⟨⟨q1, q2⟩, q3, -⟩ := place_in hg (by show (hds x.hs)[J]? = some r.d; simp [hds, hr]) (show r.d.ps[i]? = some p from hp)
  have hlb := hlab
  have HK := Lib.hid (show ∀ W, Below w.heap.size w W → Calls Tryd.prog 24 #[.agg #[.int .i64 z, .int .i64 d, .int .i64 s, .int .i64 l, .int .i64 a], x.v, .int .i64 J, .int .i64 v] W fun e w' => e = .returned (.int .i64 0) ∧ Below W.heap.size W w' from fun W hW => block_any hV true z d s l a x J v W (tn hT hW) (hx.next hW) hlab (iff_of_true rfl ⟨⟨ho, hg, q1, q2⟩, hw⟩))
  have HI := Lib.hid (show ∀ W, Calls Tryd.prog 25 #[.agg #[.int .i64 z, .int .i64 d, .int .i64 s, .int .i64 l, .int .i64 a], .int .i64 v] W fun e w' => e = .returned (.int .i64 i) ∧ Below W.heap.size W w' from fun W => by rw [← hi]; exact index_any z d s l a v W)
  have HS := Lib.hid (show ∀ W, Calls Tryd.prog 22 #[.agg #[.int .i64 z, .int .i64 d, .int .i64 s, .int .i64 l, .int .i64 a], .int .i64 J, .int .i64 p] W fun e w' => e = .returned (.tuple #[.int .i64 (a + 2 * l + 2 * z + (J : Int) * (d + 1 + s) + p), .int .i64 0]) ∧ Below W.heap.size W w' from fun W => slot_at z d s l a J p _ 0 W ho (told1 ⟨⟨q1, q2⟩, q3⟩))
  have HX := Lib.hid hx
  have HP := Lib.hid hp
  have HR := Lib.hid hr
  unfold slotA
  unfold AV.v
  have GG := (g5_new w z d s l a).keep (bl (w.alloc (.cells #[.int .i64 z, .int .i64 d, .int .i64 s, .int .i64 l, .int .i64 a] 23)) (.cells #[.int .i64 x.gen, .int .i64 x.ep, .int .i64 x.pos, .int .i64 x.seq, .int .i64 x.last, .string x.lab, .slice x.HA x.hs.length x.hc] 26)) (by simp)
  have FF := ac_new (w.alloc (.cells #[.int .i64 z, .int .i64 d, .int .i64 s, .int .i64 l, .int .i64 a] 23)) x
  have hb0 := kal (bl w (.cells #[.int .i64 z, .int .i64 d, .int .i64 s, .int .i64 l, .int .i64 a] 23)) (.cells #[.int .i64 x.gen, .int .i64 x.ep, .int .i64 x.pos, .int .i64 x.seq, .int .i64 x.last, .string x.lab, .slice x.HA x.hs.length x.hc] 26)
  rw [show (w.alloc (.cells #[.int .i64 z, .int .i64 d, .int .i64 s, .int .i64 l, .int .i64 a] 23)).heap.size = w.heap.size + 1 by simp] at FF
  have l1 : w.heap.size + 1 < ((w.alloc (.cells #[.int .i64 z, .int .i64 d, .int .i64 s, .int .i64 l, .int .i64 a] 23)).alloc (.cells #[.int .i64 x.gen, .int .i64 x.ep, .int .i64 x.pos, .int .i64 x.seq, .int .i64 x.last, .string x.lab, .slice x.HA x.hs.length x.hc] 26)).heap.size := by simp
  clear hx hg hi q3 hp hr ho
  unfold AV.v at HK
  go_enter Tryd.func8, Tryd.ntmps8
  go_upto_region 1 with fail
  generalize (w.alloc (.cells #[.int .i64 z, .int .i64 d, .int .i64 s, .int .i64 l, .int .i64 a] 23)).alloc (.cells #[.int .i64 x.gen, .int .i64 x.ep, .int .i64 x.pos, .int .i64 x.seq, .int .i64 x.last, .string x.lab, .slice x.HA x.hs.length x.hc] 26) = w0 at *
  obtain ⟨c0, c1, c2, c3, c4, c5, c6⟩ := id FF
  obtain ⟨g0, g1, g2, g3, g4⟩ := id GG
  go_upto_region 4 with (go_at_call 24; (with_reducible refine (HK.out _ hb0).mono ?_); rintro e wq ⟨rfl, hbq⟩; replace FF := FF.keep hbq (by omega); replace GG := GG.keep hbq (by omega); replace l1 := Nat.lt_of_lt_of_le l1 hbq.size; clear c0 c1 c2 c3 c4 c5 c6 g0 g1 g2 g3 g4; obtain ⟨c0, c1, c2, c3, c4, c5, c6⟩ := id FF; obtain ⟨g0, g1, g2, g3, g4⟩ := id GG; replace hb0 := bt hb0 hbq; clear hbq)
  obtain ⟨w1, rfl⟩ : ∃ u, u = wq := ⟨wq, rfl⟩
  clear HK
  obtain ⟨hJ, hJe⟩ := List.getElem?_eq_some_iff.1 HR.out
  have HXW := HX.out.next hb0
  obtain ⟨b1, off, r', hA, hb1, r0, -, -, m1, -, e1, -⟩ := home_at HXW.hh HXW.hi hJ
  rw [HR.out] at e1
  obtain rfl := Option.some.inj e1
  obtain ⟨b2, of2, hA2, hb2, p0, hil⟩ := place_at m1 HP.out
  have hcap := HXW.hl
  have hcap2 := m1.2
  rw [hA2] at r0
  replace c6 := FF.c6
  rw [hA] at c6
  have i1 : (J : Int) < (x.hs.length : Int) := by omega
  have i2 : (0 : Int) ≤ (J : Int) := by omega
  have i3 : (x.hs.length : Int) ≤ (x.hc : Int) := by omega
  have i4 : (i : Int) < (r.ps.length : Int) := by omega
  have i5 : (0 : Int) ≤ (i : Int) := by omega
  have i6 : (r.ps.length : Int) ≤ (r.c : Int) := by omega
  have HF := Lib.hid (show ∀ W, Below w1.heap.size w1 W → W.cell? ⟨w.heap.size, 0, none⟩ = some (.int .i64 z) ∧ W.cell? ⟨w.heap.size, 1, none⟩ = some (.int .i64 d) ∧ W.cell? ⟨w.heap.size, 2, none⟩ = some (.int .i64 s) ∧ W.cell? ⟨w.heap.size, 3, none⟩ = some (.int .i64 l) ∧ W.cell? ⟨w.heap.size, 4, none⟩ = some (.int .i64 a) ∧ W.cell? ⟨w.heap.size + 1, 6, none⟩ = some (.slice (some ⟨b1, off, none⟩) x.hs.length x.hc) ∧ W.cell? ⟨b1, off + J * 3, none⟩ = some (.slice (some ⟨b2, of2, none⟩) r.ps.length r.c) ∧ W.cell? ⟨b2, of2 + i, none⟩ = some (.int .i64 p) ∧ Below w1.heap.size w1 W from fun W h => by
    obtain ⟨g0, g1, g2, g3, g4⟩ := GG.keep h (by omega)
    exact ⟨g0, g1, g2, g3, g4, kst h (by omega) c6, kst h (by omega) r0, kst h (by omega) p0, h⟩)
  clear HXW m1 hcap hcap2 hA hA2
  clear g0 g1 g2 g3 g4 c0 c1 c2 c3 c4 c5 FF GG
  go_region_held3 (fun W => W.cell? ⟨w.heap.size, 0, none⟩ = some (.int .i64 z) ∧ W.cell? ⟨w.heap.size, 1, none⟩ = some (.int .i64 d) ∧ W.cell? ⟨w.heap.size, 2, none⟩ = some (.int .i64 s) ∧ W.cell? ⟨w.heap.size, 3, none⟩ = some (.int .i64 l) ∧ W.cell? ⟨w.heap.size, 4, none⟩ = some (.int .i64 a) ∧ W.cell? ⟨w.heap.size + 1, 6, none⟩ = some (.slice (some ⟨b1, off, none⟩) x.hs.length x.hc) ∧ W.cell? ⟨b1, off + J * 3, none⟩ = some (.slice (some ⟨b2, of2, none⟩) r.ps.length r.c) ∧ W.cell? ⟨b2, of2 + i, none⟩ = some (.int .i64 p) ∧ Below w1.heap.size w1 W)
    ((refine HF.out _ ?_; first
      | with_reducible exact below_dr (Below.refl _ _)
      | with_reducible exact hb3
      | with_reducible exact hb2
      | fail))
    (first
      | (go_at_call 25; (with_reducible refine (HI.out _).mono ?_); rintro e w2 ⟨rfl, hbq⟩; have hb2 := bt (below_dr (Below.refl w1.heap.size w1)) hbq; clear hbq)
      | (go_at_call 22; (with_reducible refine (HS.out _).mono ?_); rintro e w3 ⟨rfl, hbq⟩; have hb3 := bt hb2 hbq; clear hbq)
      | fail)
  go_split_ands
  go_wp2
  go_ret2
  exact ⟨rfl, bt hb0 hb3⟩
set_option maxRecDepth 100000 in
set_option maxHeartbeats 8000000 in
theorem raddr_yes  (z d s l a : Int) (x : AV) (J i : Nat) (v p : Int) (r : HomR) (w : World)  (ho : Ok z d s l a) (hx : x.In w w.heap.size) (hg : anc.Good z d s l x.d) (hr : x.hs[J]? = some r) (hi : atP d v = (i : Int)) (hp : r.ps[i]? = some p) :
    Calls Tryd.prog 18 #[.agg #[.int .i64 z, .int .i64 d, .int .i64 s, .int .i64 l, .int .i64 a], x.v, .int .i64 J, .int .i64 v] w fun e w' => e = .returned (.int .i64 (slotA z d s l a J p)) ∧ Below w.heap.size w w' := by
  obtain ⟨⟨q1, q2⟩, q3, -⟩ := place_in hg (by show (hds x.hs)[J]? = some r.d; simp [hds, hr]) (show r.d.ps[i]? = some p from hp)
  have HI := Lib.hid (show ∀ W, Calls Tryd.prog 34 #[.agg #[.int .i64 z, .int .i64 d, .int .i64 s, .int .i64 l, .int .i64 a], .int .i64 v] W fun e w' => e = .returned (.int .i64 i) ∧ Below W.heap.size W w' from fun W => by rw [← hi]; exact rat_any z d s l a v W)
  have HS := Lib.hid (show ∀ W, Calls Tryd.prog 33 #[.agg #[.int .i64 z, .int .i64 d, .int .i64 s, .int .i64 l, .int .i64 a], .int .i64 J, .int .i64 p] W fun e w' => e = .returned (.int .i64 (a + 2 * l + 2 * z + (J : Int) * (d + 1 + s) + p)) ∧ Below W.heap.size W w' from fun W => rslot_at z d s l a J p W ho ⟨q1, q2⟩ q3)
  have HX := Lib.hid hx
  have HP := Lib.hid hp
  have HR := Lib.hid hr
  unfold slotA
  unfold AV.v
  have GG := (g5_new w z d s l a).keep (bl (w.alloc (.cells #[.int .i64 z, .int .i64 d, .int .i64 s, .int .i64 l, .int .i64 a] 23)) (.cells #[.int .i64 x.gen, .int .i64 x.ep, .int .i64 x.pos, .int .i64 x.seq, .int .i64 x.last, .string x.lab, .slice x.HA x.hs.length x.hc] 26)) (by simp)
  have FF := ac_new (w.alloc (.cells #[.int .i64 z, .int .i64 d, .int .i64 s, .int .i64 l, .int .i64 a] 23)) x
  have hb0 := kal (bl w (.cells #[.int .i64 z, .int .i64 d, .int .i64 s, .int .i64 l, .int .i64 a] 23)) (.cells #[.int .i64 x.gen, .int .i64 x.ep, .int .i64 x.pos, .int .i64 x.seq, .int .i64 x.last, .string x.lab, .slice x.HA x.hs.length x.hc] 26)
  rw [show (w.alloc (.cells #[.int .i64 z, .int .i64 d, .int .i64 s, .int .i64 l, .int .i64 a] 23)).heap.size = w.heap.size + 1 by simp] at FF
  have l1 : w.heap.size + 1 < ((w.alloc (.cells #[.int .i64 z, .int .i64 d, .int .i64 s, .int .i64 l, .int .i64 a] 23)).alloc (.cells #[.int .i64 x.gen, .int .i64 x.ep, .int .i64 x.pos, .int .i64 x.seq, .int .i64 x.last, .string x.lab, .slice x.HA x.hs.length x.hc] 26)).heap.size := by simp
  clear hx hg hi q3 hp hr ho
  go_enter Tryd.func18, Tryd.ntmps18
  go_upto_region 1 with fail
  generalize (w.alloc (.cells #[.int .i64 z, .int .i64 d, .int .i64 s, .int .i64 l, .int .i64 a] 23)).alloc (.cells #[.int .i64 x.gen, .int .i64 x.ep, .int .i64 x.pos, .int .i64 x.seq, .int .i64 x.last, .string x.lab, .slice x.HA x.hs.length x.hc] 26) = w0 at *
  obtain ⟨c0, c1, c2, c3, c4, c5, c6⟩ := id FF
  obtain ⟨g0, g1, g2, g3, g4⟩ := id GG
  obtain ⟨w1, rfl⟩ : ∃ u, u = w0 := ⟨w0, rfl⟩
  obtain ⟨hJ, hJe⟩ := List.getElem?_eq_some_iff.1 HR.out
  have HXW := HX.out.next hb0
  obtain ⟨b1, off, r', hA, hb1, r0, -, -, m1, -, e1, -⟩ := home_at HXW.hh HXW.hi hJ
  rw [HR.out] at e1
  obtain rfl := Option.some.inj e1
  obtain ⟨b2, of2, hA2, hb2, p0, hil⟩ := place_at m1 HP.out
  have hcap := HXW.hl
  have hcap2 := m1.2
  rw [hA2] at r0
  replace c6 := FF.c6
  rw [hA] at c6
  have i1 : (J : Int) < (x.hs.length : Int) := by omega
  have i2 : (0 : Int) ≤ (J : Int) := by omega
  have i3 : (x.hs.length : Int) ≤ (x.hc : Int) := by omega
  have i4 : (i : Int) < (r.ps.length : Int) := by omega
  have i5 : (0 : Int) ≤ (i : Int) := by omega
  have i6 : (r.ps.length : Int) ≤ (r.c : Int) := by omega
  have HF := Lib.hid (show ∀ W, Below w1.heap.size w1 W → W.cell? ⟨w.heap.size, 0, none⟩ = some (.int .i64 z) ∧ W.cell? ⟨w.heap.size, 1, none⟩ = some (.int .i64 d) ∧ W.cell? ⟨w.heap.size, 2, none⟩ = some (.int .i64 s) ∧ W.cell? ⟨w.heap.size, 3, none⟩ = some (.int .i64 l) ∧ W.cell? ⟨w.heap.size, 4, none⟩ = some (.int .i64 a) ∧ W.cell? ⟨w.heap.size + 1, 6, none⟩ = some (.slice (some ⟨b1, off, none⟩) x.hs.length x.hc) ∧ W.cell? ⟨b1, off + J * 3, none⟩ = some (.slice (some ⟨b2, of2, none⟩) r.ps.length r.c) ∧ W.cell? ⟨b2, of2 + i, none⟩ = some (.int .i64 p) ∧ Below w1.heap.size w1 W from fun W h => by
    obtain ⟨g0, g1, g2, g3, g4⟩ := GG.keep h (by omega)
    exact ⟨g0, g1, g2, g3, g4, kst h (by omega) c6, kst h (by omega) r0, kst h (by omega) p0, h⟩)
  clear HXW m1 hcap hcap2 hA hA2
  clear g0 g1 g2 g3 g4 c0 c1 c2 c3 c4 c5 FF GG
  go_region_held3 (fun W => W.cell? ⟨w.heap.size, 0, none⟩ = some (.int .i64 z) ∧ W.cell? ⟨w.heap.size, 1, none⟩ = some (.int .i64 d) ∧ W.cell? ⟨w.heap.size, 2, none⟩ = some (.int .i64 s) ∧ W.cell? ⟨w.heap.size, 3, none⟩ = some (.int .i64 l) ∧ W.cell? ⟨w.heap.size, 4, none⟩ = some (.int .i64 a) ∧ W.cell? ⟨w.heap.size + 1, 6, none⟩ = some (.slice (some ⟨b1, off, none⟩) x.hs.length x.hc) ∧ W.cell? ⟨b1, off + J * 3, none⟩ = some (.slice (some ⟨b2, of2, none⟩) r.ps.length r.c) ∧ W.cell? ⟨b2, of2 + i, none⟩ = some (.int .i64 p) ∧ Below w1.heap.size w1 W)
    ((refine HF.out _ ?_; first
      | with_reducible exact below_dr (Below.refl _ _)
      | with_reducible exact hb3
      | with_reducible exact hb2
      | fail))
    (first
      | (go_at_call 34; (with_reducible refine (HI.out _).mono ?_); rintro e w2 ⟨rfl, hbq⟩; have hb2 := bt (below_dr (Below.refl w1.heap.size w1)) hbq; clear hbq)
      | (go_at_call 33; (with_reducible refine (HS.out _).mono ?_); rintro e w3 ⟨rfl, hbq⟩; have hb3 := bt hb2 hbq; clear hbq)
      | fail)
  go_split_ands
  go_wp2
  go_ret
  exact ⟨rfl, bt hb0 hb3⟩
set_option maxRecDepth 100000 in
set_option maxHeartbeats 8000000 in
theorem addr_no (hV : ValidOk) (z d s l a : Int) (x : AV) (j v : Int) (w : World) (hT : Tabs w) (hx : x.In w w.heap.size) (hlab : x.lab.size ≤ 4294967296) (hno : ¬ ((Ok z d s l a ∧ anc.Good z d s l x.d ∧ 0 ≤ j ∧ j < z) ∧ IsWhat d v)) :
    Calls Tryd.prog 8 #[.agg #[.int .i64 z, .int .i64 d, .int .i64 s, .int .i64 l, .int .i64 a], x.v, .int .i64 j, .int .i64 v] w fun e w' => e = .returned (.tuple #[.int .i64 0, .int .i64 1]) ∧ Below w.heap.size w w' := by
  have HK := Lib.hid (show ∀ W, Below w.heap.size w W → Calls Tryd.prog 24 #[.agg #[.int .i64 z, .int .i64 d, .int .i64 s, .int .i64 l, .int .i64 a], x.v, .int .i64 j, .int .i64 v] W fun e w' => e = .returned (.int .i64 1) ∧ Below W.heap.size W w' from fun W hW => block_any hV false z d s l a x j v W (tn hT hW) (hx.next hW) hlab (iff_of_false Bool.false_ne_true hno))
  unfold AV.v
  have GG := (g5_new w z d s l a).keep (bl (w.alloc (.cells #[.int .i64 z, .int .i64 d, .int .i64 s, .int .i64 l, .int .i64 a] 23)) (.cells #[.int .i64 x.gen, .int .i64 x.ep, .int .i64 x.pos, .int .i64 x.seq, .int .i64 x.last, .string x.lab, .slice x.HA x.hs.length x.hc] 26)) (by simp)
  have FF := ac_new (w.alloc (.cells #[.int .i64 z, .int .i64 d, .int .i64 s, .int .i64 l, .int .i64 a] 23)) x
  have hb0 := kal (bl w (.cells #[.int .i64 z, .int .i64 d, .int .i64 s, .int .i64 l, .int .i64 a] 23)) (.cells #[.int .i64 x.gen, .int .i64 x.ep, .int .i64 x.pos, .int .i64 x.seq, .int .i64 x.last, .string x.lab, .slice x.HA x.hs.length x.hc] 26)
  rw [show (w.alloc (.cells #[.int .i64 z, .int .i64 d, .int .i64 s, .int .i64 l, .int .i64 a] 23)).heap.size = w.heap.size + 1 by simp] at FF
  have l1 : w.heap.size + 1 < ((w.alloc (.cells #[.int .i64 z, .int .i64 d, .int .i64 s, .int .i64 l, .int .i64 a] 23)).alloc (.cells #[.int .i64 x.gen, .int .i64 x.ep, .int .i64 x.pos, .int .i64 x.seq, .int .i64 x.last, .string x.lab, .slice x.HA x.hs.length x.hc] 26)).heap.size := by simp
  clear hno hx hT
  unfold AV.v at HK
  go_enter Tryd.func8, Tryd.ntmps8
  go_upto_region 1 with fail
  generalize (w.alloc (.cells #[.int .i64 z, .int .i64 d, .int .i64 s, .int .i64 l, .int .i64 a] 23)).alloc (.cells #[.int .i64 x.gen, .int .i64 x.ep, .int .i64 x.pos, .int .i64 x.seq, .int .i64 x.last, .string x.lab, .slice x.HA x.hs.length x.hc] 26) = w0 at *
  obtain ⟨c0, c1, c2, c3, c4, c5, c6⟩ := id FF
  obtain ⟨g0, g1, g2, g3, g4⟩ := id GG
  go_wp2_with (go_at_call 24; (with_reducible refine (HK.out _ hb0).mono ?_); rintro e wq ⟨rfl, hbq⟩; replace FF := FF.keep hbq (by omega); replace GG := GG.keep hbq (by omega); replace l1 := Nat.lt_of_lt_of_le l1 hbq.size; clear c0 c1 c2 c3 c4 c5 c6 g0 g1 g2 g3 g4; obtain ⟨c0, c1, c2, c3, c4, c5, c6⟩ := id FF; obtain ⟨g0, g1, g2, g3, g4⟩ := id GG; replace hb0 := bt hb0 hbq; clear hbq)
  go_ret2
  exact ⟨rfl, hb0⟩
theorem home_in {z d s l : Int} {X : Anc} {J : Nat} {h : Hom} (hg : anc.Good z d s l X) (hr : X.hs[J]? = some h) : (0 ≤ (J : Int) ∧ (J : Int) < z) ∧ d + 1 ≤ h.nx ∧ h.nx ≤ d + 1 + s := by
  obtain ⟨hJ, -⟩ := List.getElem?_eq_some_iff.1 hr
  have h8 := hg.2.2.2.2.2.2.2.1
  obtain ⟨-, k2, -⟩ := good_home hg hr
  exact ⟨⟨by omega, by omega⟩, k2⟩
theorem hds_get {hs : List HomR} {J : Nat} {r : HomR} (hr : hs[J]? = some r) : (hds hs)[J]? = some r.d := by simp [hds, hr]
set_option maxRecDepth 100000 in
set_option maxHeartbeats 8000000 in
theorem spares_yes (hV : ValidOk) (z d s l a : Int) (x : AV) (J : Nat) (r : HomR) (w : World) (hT : Tabs w) (hlab : x.lab.size ≤ 4294967296) (ho : Ok z d s l a) (hx : x.In w w.heap.size) (hg : anc.Good z d s l x.d) (hr : x.hs[J]? = some r) :
    Calls Tryd.prog 9 #[.agg #[.int .i64 z, .int .i64 d, .int .i64 s, .int .i64 l, .int .i64 a], x.v, .int .i64 J] w fun e w' => e = .returned (.tuple #[.int .i64 (d + 1 + s - r.nx), .int .i64 0]) ∧ Below w.heap.size w w' := by
  obtain ⟨⟨q1, q2⟩, q30⟩ := home_in hg (hds_get hr)
  have q3 : d + 1 ≤ r.nx ∧ r.nx ≤ d + 1 + s := q30
  clear q30
  have HK := Lib.hid (show ∀ W, Below w.heap.size w W → Calls Tryd.prog 26 #[.agg #[.int .i64 z, .int .i64 d, .int .i64 s, .int .i64 l, .int .i64 a], x.v, .int .i64 J] W fun e w' => e = .returned (.int .i64 0) ∧ Below W.heap.size W w' from fun W hW => zone_any hV true z d s l a x J W (tn hT hW) (hx.next hW) hlab (iff_of_true rfl ⟨ho, hg, q1, q2⟩))
  have HI := Lib.hid (show ∀ W, Calls Tryd.prog 27 #[.agg #[.int .i64 z, .int .i64 d, .int .i64 s, .int .i64 l, .int .i64 a], .agg #[.slice r.A r.ps.length r.c, .int .i64 r.nx, .int .i64 r.rt]] W fun e w' => e = .returned (.int .i64 (d + 1 + s - r.nx)) ∧ Below W.heap.size W w' from fun W => count_any z d s l a r.nx r.rt r.A r.ps.length r.c W ho q3)
  have HX := Lib.hid hx
  have HR := Lib.hid hr
  unfold AV.v
  have GG := (g5_new w z d s l a).keep (bl (w.alloc (.cells #[.int .i64 z, .int .i64 d, .int .i64 s, .int .i64 l, .int .i64 a] 23)) (.cells #[.int .i64 x.gen, .int .i64 x.ep, .int .i64 x.pos, .int .i64 x.seq, .int .i64 x.last, .string x.lab, .slice x.HA x.hs.length x.hc] 26)) (by simp)
  have FF := ac_new (w.alloc (.cells #[.int .i64 z, .int .i64 d, .int .i64 s, .int .i64 l, .int .i64 a] 23)) x
  have hb0 := kal (bl w (.cells #[.int .i64 z, .int .i64 d, .int .i64 s, .int .i64 l, .int .i64 a] 23)) (.cells #[.int .i64 x.gen, .int .i64 x.ep, .int .i64 x.pos, .int .i64 x.seq, .int .i64 x.last, .string x.lab, .slice x.HA x.hs.length x.hc] 26)
  rw [show (w.alloc (.cells #[.int .i64 z, .int .i64 d, .int .i64 s, .int .i64 l, .int .i64 a] 23)).heap.size = w.heap.size + 1 by simp] at FF
  have l1 : w.heap.size + 1 < ((w.alloc (.cells #[.int .i64 z, .int .i64 d, .int .i64 s, .int .i64 l, .int .i64 a] 23)).alloc (.cells #[.int .i64 x.gen, .int .i64 x.ep, .int .i64 x.pos, .int .i64 x.seq, .int .i64 x.last, .string x.lab, .slice x.HA x.hs.length x.hc] 26)).heap.size := by simp
  clear hx hg q3 hr ho hT
  unfold AV.v at HK
  go_enter Tryd.func9, Tryd.ntmps9
  go_upto_region 1 with fail
  generalize (w.alloc (.cells #[.int .i64 z, .int .i64 d, .int .i64 s, .int .i64 l, .int .i64 a] 23)).alloc (.cells #[.int .i64 x.gen, .int .i64 x.ep, .int .i64 x.pos, .int .i64 x.seq, .int .i64 x.last, .string x.lab, .slice x.HA x.hs.length x.hc] 26) = w0 at *
  obtain ⟨c0, c1, c2, c3, c4, c5, c6⟩ := id FF
  obtain ⟨g0, g1, g2, g3, g4⟩ := id GG
  go_upto_region 4 with (go_at_call 26; (with_reducible refine (HK.out _ hb0).mono ?_); rintro e wq ⟨rfl, hbq⟩; replace FF := FF.keep hbq (by omega); replace GG := GG.keep hbq (by omega); replace l1 := Nat.lt_of_lt_of_le l1 hbq.size; clear c0 c1 c2 c3 c4 c5 c6 g0 g1 g2 g3 g4; obtain ⟨c0, c1, c2, c3, c4, c5, c6⟩ := id FF; obtain ⟨g0, g1, g2, g3, g4⟩ := id GG; replace hb0 := bt hb0 hbq; clear hbq)
  obtain ⟨w1, rfl⟩ : ∃ u, u = wq := ⟨wq, rfl⟩
  clear HK
  obtain ⟨hJ, hJe⟩ := List.getElem?_eq_some_iff.1 HR.out
  have HXW := HX.out.next hb0
  obtain ⟨b1, off, r', hA, hb1, r0, r1, r2, m1, -, e1, -⟩ := home_at HXW.hh HXW.hi hJ
  rw [HR.out] at e1
  obtain rfl := Option.some.inj e1
  have hcap := HXW.hl
  replace c6 := FF.c6
  rw [hA] at c6
  have i1 : (J : Int) < (x.hs.length : Int) := by omega
  have i2 : (0 : Int) ≤ (J : Int) := by omega
  have i3 : (x.hs.length : Int) ≤ (x.hc : Int) := by omega
  clear HXW m1 hcap hA
  have HF := Lib.hid (show ∀ W, Below w1.heap.size w1 W → W.cell? ⟨w.heap.size, 0, none⟩ = some (.int .i64 z) ∧ W.cell? ⟨w.heap.size, 1, none⟩ = some (.int .i64 d) ∧ W.cell? ⟨w.heap.size, 2, none⟩ = some (.int .i64 s) ∧ W.cell? ⟨w.heap.size, 3, none⟩ = some (.int .i64 l) ∧ W.cell? ⟨w.heap.size, 4, none⟩ = some (.int .i64 a) ∧ W.cell? ⟨w.heap.size + 1, 6, none⟩ = some (.slice (some ⟨b1, off, none⟩) x.hs.length x.hc) ∧ W.cell? ⟨b1, off + J * 3, none⟩ = some (.slice r.A r.ps.length r.c) ∧ W.cell? ⟨b1, off + J * 3 + 1, none⟩ = some (.int .i64 r.nx) ∧ W.cell? ⟨b1, off + J * 3 + 2, none⟩ = some (.int .i64 r.rt) ∧ Below w1.heap.size w1 W from fun W h => by
    obtain ⟨g0, g1, g2, g3, g4⟩ := GG.keep h (by omega)
    exact ⟨g0, g1, g2, g3, g4, kst h (by omega) c6, kst h (by omega) r0, kst h (by omega) r1, kst h (by omega) r2, h⟩)
  clear g0 g1 g2 g3 g4 c0 c1 c2 c3 c4 c5 FF GG
  go_region_held3 (fun W => W.cell? ⟨w.heap.size, 0, none⟩ = some (.int .i64 z) ∧ W.cell? ⟨w.heap.size, 1, none⟩ = some (.int .i64 d) ∧ W.cell? ⟨w.heap.size, 2, none⟩ = some (.int .i64 s) ∧ W.cell? ⟨w.heap.size, 3, none⟩ = some (.int .i64 l) ∧ W.cell? ⟨w.heap.size, 4, none⟩ = some (.int .i64 a) ∧ W.cell? ⟨w.heap.size + 1, 6, none⟩ = some (.slice (some ⟨b1, off, none⟩) x.hs.length x.hc) ∧ W.cell? ⟨b1, off + J * 3, none⟩ = some (.slice r.A r.ps.length r.c) ∧ W.cell? ⟨b1, off + J * 3 + 1, none⟩ = some (.int .i64 r.nx) ∧ W.cell? ⟨b1, off + J * 3 + 2, none⟩ = some (.int .i64 r.rt) ∧ Below w1.heap.size w1 W)
    ((refine HF.out _ ?_; first
      | with_reducible exact below_dr (Below.refl _ _)
      | with_reducible exact hb3
      | with_reducible exact hb2
      | fail))
    (first
      | (go_at_call 27; (with_reducible refine (HI.out _).mono ?_); rintro e w2 ⟨rfl, hbq⟩; have hb2 := bt (below_dr (Below.refl w1.heap.size w1)) hbq; clear hbq)
      | fail)
  go_split_ands
  go_wp2
  go_ret2
  exact ⟨rfl, bt hb0 hb2⟩
set_option maxRecDepth 100000 in
set_option maxHeartbeats 8000000 in
theorem spares_no (hV : ValidOk) (z d s l a : Int) (x : AV) (j : Int) (w : World) (hT : Tabs w) (hx : x.In w w.heap.size) (hlab : x.lab.size ≤ 4294967296) (hno : ¬ (Ok z d s l a ∧ anc.Good z d s l x.d ∧ 0 ≤ j ∧ j < z)) :
    Calls Tryd.prog 9 #[.agg #[.int .i64 z, .int .i64 d, .int .i64 s, .int .i64 l, .int .i64 a], x.v, .int .i64 j] w fun e w' => e = .returned (.tuple #[.int .i64 0, .int .i64 1]) ∧ Below w.heap.size w w' := by
  have HK := Lib.hid (show ∀ W, Below w.heap.size w W → Calls Tryd.prog 26 #[.agg #[.int .i64 z, .int .i64 d, .int .i64 s, .int .i64 l, .int .i64 a], x.v, .int .i64 j] W fun e w' => e = .returned (.int .i64 1) ∧ Below W.heap.size W w' from fun W hW => zone_any hV false z d s l a x j W (tn hT hW) (hx.next hW) hlab (iff_of_false Bool.false_ne_true hno))
  unfold AV.v
  have GG := (g5_new w z d s l a).keep (bl (w.alloc (.cells #[.int .i64 z, .int .i64 d, .int .i64 s, .int .i64 l, .int .i64 a] 23)) (.cells #[.int .i64 x.gen, .int .i64 x.ep, .int .i64 x.pos, .int .i64 x.seq, .int .i64 x.last, .string x.lab, .slice x.HA x.hs.length x.hc] 26)) (by simp)
  have FF := ac_new (w.alloc (.cells #[.int .i64 z, .int .i64 d, .int .i64 s, .int .i64 l, .int .i64 a] 23)) x
  have hb0 := kal (bl w (.cells #[.int .i64 z, .int .i64 d, .int .i64 s, .int .i64 l, .int .i64 a] 23)) (.cells #[.int .i64 x.gen, .int .i64 x.ep, .int .i64 x.pos, .int .i64 x.seq, .int .i64 x.last, .string x.lab, .slice x.HA x.hs.length x.hc] 26)
  rw [show (w.alloc (.cells #[.int .i64 z, .int .i64 d, .int .i64 s, .int .i64 l, .int .i64 a] 23)).heap.size = w.heap.size + 1 by simp] at FF
  have l1 : w.heap.size + 1 < ((w.alloc (.cells #[.int .i64 z, .int .i64 d, .int .i64 s, .int .i64 l, .int .i64 a] 23)).alloc (.cells #[.int .i64 x.gen, .int .i64 x.ep, .int .i64 x.pos, .int .i64 x.seq, .int .i64 x.last, .string x.lab, .slice x.HA x.hs.length x.hc] 26)).heap.size := by simp
  clear hno hx hT
  unfold AV.v at HK
  go_enter Tryd.func9, Tryd.ntmps9
  go_upto_region 1 with fail
  generalize (w.alloc (.cells #[.int .i64 z, .int .i64 d, .int .i64 s, .int .i64 l, .int .i64 a] 23)).alloc (.cells #[.int .i64 x.gen, .int .i64 x.ep, .int .i64 x.pos, .int .i64 x.seq, .int .i64 x.last, .string x.lab, .slice x.HA x.hs.length x.hc] 26) = w0 at *
  obtain ⟨c0, c1, c2, c3, c4, c5, c6⟩ := id FF
  obtain ⟨g0, g1, g2, g3, g4⟩ := id GG
  go_wp2_with (go_at_call 26; (with_reducible refine (HK.out _ hb0).mono ?_); rintro e wq ⟨rfl, hbq⟩; replace FF := FF.keep hbq (by omega); replace GG := GG.keep hbq (by omega); replace l1 := Nat.lt_of_lt_of_le l1 hbq.size; clear c0 c1 c2 c3 c4 c5 c6 g0 g1 g2 g3 g4; obtain ⟨c0, c1, c2, c3, c4, c5, c6⟩ := id FF; obtain ⟨g0, g1, g2, g3, g4⟩ := id GG; replace hb0 := bt hb0 hbq; clear hbq)
  go_ret2
  exact ⟨rfl, hb0⟩
set_option maxRecDepth 100000 in
set_option maxHeartbeats 8000000 in
theorem rspares_yes (z d s l a : Int) (x : AV) (J : Nat) (r : HomR) (w : World) (ho : Ok z d s l a) (hx : x.In w w.heap.size) (hg : anc.Good z d s l x.d) (hr : x.hs[J]? = some r) :
    Calls Tryd.prog 16 #[.agg #[.int .i64 z, .int .i64 d, .int .i64 s, .int .i64 l, .int .i64 a], x.v, .int .i64 J] w fun e w' => e = .returned (.int .i64 (d + 1 + s - r.nx)) ∧ Below w.heap.size w w' := by
  obtain ⟨⟨q1, q2⟩, q30⟩ := home_in hg (hds_get hr)
  have q3 : d + 1 ≤ r.nx ∧ r.nx ≤ d + 1 + s := q30
  clear q30
  obtain ⟨-, o2, o3, -⟩ := ho
  have HX := Lib.hid hx
  have HR := Lib.hid hr
  unfold AV.v
  have GG := (g5_new w z d s l a).keep (bl (w.alloc (.cells #[.int .i64 z, .int .i64 d, .int .i64 s, .int .i64 l, .int .i64 a] 23)) (.cells #[.int .i64 x.gen, .int .i64 x.ep, .int .i64 x.pos, .int .i64 x.seq, .int .i64 x.last, .string x.lab, .slice x.HA x.hs.length x.hc] 26)) (by simp)
  have FF := ac_new (w.alloc (.cells #[.int .i64 z, .int .i64 d, .int .i64 s, .int .i64 l, .int .i64 a] 23)) x
  have hb0 := kal (bl w (.cells #[.int .i64 z, .int .i64 d, .int .i64 s, .int .i64 l, .int .i64 a] 23)) (.cells #[.int .i64 x.gen, .int .i64 x.ep, .int .i64 x.pos, .int .i64 x.seq, .int .i64 x.last, .string x.lab, .slice x.HA x.hs.length x.hc] 26)
  rw [show (w.alloc (.cells #[.int .i64 z, .int .i64 d, .int .i64 s, .int .i64 l, .int .i64 a] 23)).heap.size = w.heap.size + 1 by simp] at FF
  have l1 : w.heap.size + 1 < ((w.alloc (.cells #[.int .i64 z, .int .i64 d, .int .i64 s, .int .i64 l, .int .i64 a] 23)).alloc (.cells #[.int .i64 x.gen, .int .i64 x.ep, .int .i64 x.pos, .int .i64 x.seq, .int .i64 x.last, .string x.lab, .slice x.HA x.hs.length x.hc] 26)).heap.size := by simp
  clear hx hg hr
  go_enter Tryd.func16, Tryd.ntmps16
  go_upto_region 1 with fail
  generalize (w.alloc (.cells #[.int .i64 z, .int .i64 d, .int .i64 s, .int .i64 l, .int .i64 a] 23)).alloc (.cells #[.int .i64 x.gen, .int .i64 x.ep, .int .i64 x.pos, .int .i64 x.seq, .int .i64 x.last, .string x.lab, .slice x.HA x.hs.length x.hc] 26) = w0 at *
  obtain ⟨c0, c1, c2, c3, c4, c5, c6⟩ := id FF
  obtain ⟨g0, g1, g2, g3, g4⟩ := id GG
  obtain ⟨w1, rfl⟩ : ∃ u, u = w0 := ⟨w0, rfl⟩
  obtain ⟨hJ, hJe⟩ := List.getElem?_eq_some_iff.1 HR.out
  have HXW := HX.out.next hb0
  obtain ⟨b1, off, r', hA, hb1, r0, r1, r2, m1, -, e1, -⟩ := home_at HXW.hh HXW.hi hJ
  rw [HR.out] at e1
  obtain rfl := Option.some.inj e1
  have hcap := HXW.hl
  replace c6 := FF.c6
  rw [hA] at c6
  have i1 : (J : Int) < (x.hs.length : Int) := by omega
  have i2 : (0 : Int) ≤ (J : Int) := by omega
  have i3 : (x.hs.length : Int) ≤ (x.hc : Int) := by omega
  clear HXW m1 hcap hA
  have v1 : IntKind.i64.wrap (d + 1) = d + 1 := w6 _ (by omega) (by omega)
  have v2 : IntKind.i64.wrap (d + 1 + s) = d + 1 + s := w6 _ (by omega) (by omega)
  have v3 : IntKind.i64.wrap (d + 1 + s - r.nx) = d + 1 + s - r.nx := w6 _ (by omega) (by omega)
  go_quiet (fail)
  go_wp2
  go_ret
  exact ⟨rfl, below_dn hb0 _⟩
end Go.Proofs.YthbjfpgcinmjiaaDoor.plc
