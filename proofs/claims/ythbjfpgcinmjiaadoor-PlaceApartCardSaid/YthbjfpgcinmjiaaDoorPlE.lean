/-
  place.Skip: a spare passed over. Conditions: as AnU's; 'CloneOk'.
-/
import Derived.Test.YthbjfpgcinmjiaaDoorPlC
import Derived.Test.YthbjfpgcinmjiaaDoorPlD
import Derived.Test.YthbjfpgcinmjiaaDoorGAe
namespace Go.Proofs.YthbjfpgcinmjiaaDoor.plc
open Go.RowKit Go.Lib
open Go.Proofs.YthbjfpgcinmjiaaDoor.gmt (Ok five_new slot_at rslot_at w6)
open Go.Proofs.YthbjfpgcinmjiaaDoor.anc
open Go.Proofs.YthbjfpgcinmjiaaDoor.lbl (ValidOk CloneOk Tabs)

/-- An anchor of one's own, whose homes lie apart, and an error. -/
def AnsP (base : Nat) (X : Anc) (n : Int) (e : Ending) (w' : World) : Prop := ∃ y : AV, e = .returned (.tuple #[y.v, .int .i64 n]) ∧ y.d = X ∧ y.Own w' base ∧ Parted y.hs
/-- The next spare's cell of one home of one's own. -/
theorem own_next {w : World} {base J : Nat} {y : AV} {r : HomR} (h : y.Own w base) (hr : y.hs[J]? = some r) :
    ∃ g, y.HA = some ⟨g, 0, none⟩ ∧ base ≤ g ∧ g < w.heap.size ∧ y.hs.length ≤ y.hc ∧ w.cell? ⟨g, J * 3, none⟩ = some (.slice r.A r.ps.length r.c) ∧ w.cell? ⟨g, J * 3 + 1, none⟩ = some (.int .i64 r.nx) ∧ ∀ i, w.frozen? ⟨g, i, none⟩ = false := by
  obtain ⟨hJ, -⟩ := List.getElem?_eq_some_iff.1 hr
  obtain ⟨g, hg, h1, h2⟩ := h.tab (by omega)
  have h3 := h.1
  have hin := h.inn
  obtain ⟨b, off, r', hA, -, r0, r1, -, -, -, e1, -⟩ := home_at hin.hh hin.hi hJ
  rw [hr] at e1
  obtain rfl := Option.some.inj e1
  rw [hg] at hA
  simp only [Option.some.injEq, Addr.mk.injEq, and_true] at hA
  obtain ⟨rfl, rfl⟩ := hA
  rw [hg] at h3
  refine ⟨g, hg, h2, h1, hin.hl.1, by rw [Nat.zero_add] at r0; exact r0, by rw [Nat.zero_add] at r1; exact r1, fun i => World.ownsRow.frozenAt h3 i⟩

theorem skip_d {x y : AV} {J : Nat} {r r' : HomR} (hd : y.d = x.d) (he : r'.d = r.d) : AV.d { y with hs := y.hs.set J { r' with nx := r'.nx + 1 } } = skipA x.d J r.d := by
  rw [← hd, ← he]
  show (⟨y.gen, y.ep, y.pos, y.seq, y.last, y.lab, hds (y.hs.set J _)⟩ : Anc) = ⟨y.gen, y.ep, y.pos, y.seq, y.last, y.lab, (hds y.hs).set J _⟩
  rw [hds_set]
  rfl
set_option maxRecDepth 100000 in
set_option maxHeartbeats 8000000 in
theorem skip_no (hV : ValidOk) (z d s l a : Int) (x : AV) (j : Int) (w : World) (hT : Tabs w) (hx : x.In w w.heap.size) (hlab : x.lab.size ≤ 4294967296) (hno : ¬ (Ok z d s l a ∧ anc.Good z d s l x.d ∧ 0 ≤ j ∧ j < z)) :
    Calls Tryd.prog 11 #[.agg #[.int .i64 z, .int .i64 d, .int .i64 s, .int .i64 l, .int .i64 a], x.v, .int .i64 j] w fun e w' => AnsP w.heap.size noAnc 1 e w' ∧ Below w.heap.size w w' := by
  have HK := Lib.hid (show ∀ W, Below w.heap.size w W → Calls Tryd.prog 26 #[.agg #[.int .i64 z, .int .i64 d, .int .i64 s, .int .i64 l, .int .i64 a], x.v, .int .i64 j] W fun e w' => e = .returned (.int .i64 1) ∧ Below W.heap.size W w' from fun W hW => zone_any hV false z d s l a x j W (tn hT hW) (hx.next hW) hlab (iff_of_false Bool.false_ne_true hno))
  unfold AV.v
  have GG := ((g5_new w z d s l a).keep (bl (w.alloc (.cells #[.int .i64 z, .int .i64 d, .int .i64 s, .int .i64 l, .int .i64 a] 23)) (.cells #[.int .i64 x.gen, .int .i64 x.ep, .int .i64 x.pos, .int .i64 x.seq, .int .i64 x.last, .string x.lab, .slice x.HA x.hs.length x.hc] 26)) (by simp)).keep (bl ((w.alloc (.cells #[.int .i64 z, .int .i64 d, .int .i64 s, .int .i64 l, .int .i64 a] 23)).alloc (.cells #[.int .i64 x.gen, .int .i64 x.ep, .int .i64 x.pos, .int .i64 x.seq, .int .i64 x.last, .string x.lab, .slice x.HA x.hs.length x.hc] 26)) (.cells #[.int .i64 0, .int .i64 0, .int .i64 0, .int .i64 0, .int .i64 0, .string ⟨#[]⟩, .slice none 0 0] 26)) (by simp; omega)
  have FF := ac_new (w.alloc (.cells #[.int .i64 z, .int .i64 d, .int .i64 s, .int .i64 l, .int .i64 a] 23)) x
  rw [show (w.alloc (.cells #[.int .i64 z, .int .i64 d, .int .i64 s, .int .i64 l, .int .i64 a] 23)).heap.size = w.heap.size + 1 by simp] at FF
  replace FF := FF.keep (bl ((w.alloc (.cells #[.int .i64 z, .int .i64 d, .int .i64 s, .int .i64 l, .int .i64 a] 23)).alloc (.cells #[.int .i64 x.gen, .int .i64 x.ep, .int .i64 x.pos, .int .i64 x.seq, .int .i64 x.last, .string x.lab, .slice x.HA x.hs.length x.hc] 26)) (.cells #[.int .i64 0, .int .i64 0, .int .i64 0, .int .i64 0, .int .i64 0, .string ⟨#[]⟩, .slice none 0 0] 26)) (by simp)
  have hb0 := kal (kal (bl w (.cells #[.int .i64 z, .int .i64 d, .int .i64 s, .int .i64 l, .int .i64 a] 23)) (.cells #[.int .i64 x.gen, .int .i64 x.ep, .int .i64 x.pos, .int .i64 x.seq, .int .i64 x.last, .string x.lab, .slice x.HA x.hs.length x.hc] 26)) (.cells #[.int .i64 0, .int .i64 0, .int .i64 0, .int .i64 0, .int .i64 0, .string ⟨#[]⟩, .slice none 0 0] 26)
  have P := sev_new ((w.alloc (.cells #[.int .i64 z, .int .i64 d, .int .i64 s, .int .i64 l, .int .i64 a] 23)).alloc (.cells #[.int .i64 x.gen, .int .i64 x.ep, .int .i64 x.pos, .int .i64 x.seq, .int .i64 x.last, .string x.lab, .slice x.HA x.hs.length x.hc] 26)) (.int .i64 0) (.int .i64 0) (.int .i64 0) (.int .i64 0) (.int .i64 0) (.string ⟨#[]⟩) (.slice none 0 0) 26
  rw [show ((w.alloc (.cells #[.int .i64 z, .int .i64 d, .int .i64 s, .int .i64 l, .int .i64 a] 23)).alloc (.cells #[.int .i64 x.gen, .int .i64 x.ep, .int .i64 x.pos, .int .i64 x.seq, .int .i64 x.last, .string x.lab, .slice x.HA x.hs.length x.hc] 26)).heap.size = w.heap.size + 2 by simp] at P
  have l1 : w.heap.size + 2 < (((w.alloc (.cells #[.int .i64 z, .int .i64 d, .int .i64 s, .int .i64 l, .int .i64 a] 23)).alloc (.cells #[.int .i64 x.gen, .int .i64 x.ep, .int .i64 x.pos, .int .i64 x.seq, .int .i64 x.last, .string x.lab, .slice x.HA x.hs.length x.hc] 26)).alloc (.cells #[.int .i64 0, .int .i64 0, .int .i64 0, .int .i64 0, .int .i64 0, .string ⟨#[]⟩, .slice none 0 0] 26)).heap.size := by simp
  clear hno hx hT
  unfold AV.v at HK
  go_enter Tryd.func11, Tryd.ntmps11
  go_upto_region 1 with fail
  generalize ((w.alloc (.cells #[.int .i64 z, .int .i64 d, .int .i64 s, .int .i64 l, .int .i64 a] 23)).alloc (.cells #[.int .i64 x.gen, .int .i64 x.ep, .int .i64 x.pos, .int .i64 x.seq, .int .i64 x.last, .string x.lab, .slice x.HA x.hs.length x.hc] 26)).alloc (.cells #[.int .i64 0, .int .i64 0, .int .i64 0, .int .i64 0, .int .i64 0, .string ⟨#[]⟩, .slice none 0 0] 26) = w0 at *
  obtain ⟨c0, c1, c2, c3, c4, c5, c6⟩ := id FF
  obtain ⟨g0, g1, g2, g3, g4⟩ := id GG
  go_upto_region 2 with (go_at_call 26; (with_reducible refine (HK.out _ hb0).mono ?_); rintro e wq ⟨rfl, hbq⟩; replace FF := FF.keep hbq (by omega); replace GG := GG.keep hbq (by omega); replace P := P.keep hbq (by omega); replace l1 := Nat.lt_of_lt_of_le l1 hbq.size; clear c0 c1 c2 c3 c4 c5 c6 g0 g1 g2 g3 g4; obtain ⟨c0, c1, c2, c3, c4, c5, c6⟩ := id FF; obtain ⟨g0, g1, g2, g3, g4⟩ := id GG; replace hb0 := bt hb0 hbq; clear hbq)
  obtain ⟨z0, z1, z2, z3, z4, z5, z6, f0, f1, f2, f3, f4, f5, f6⟩ := id P
  clear HK GG FF c0 c1 c2 c3 c4 c5 c6 g0 g1 g2 g3 g4
  go_wp2_with fail
  have k7 := (((((((P.set0 (.int .i64 0)).set1 (.int .i64 0)).set2 (.int .i64 0)).set3 (.int .i64 0)).set4 (.int .i64 0)).set5 (.string ⟨#[]⟩)).set6 (.slice none 0 0))
  exact bodyPost_ret (v := .tuple #[.agg #[.int .i64 0, .int .i64 0, .int .i64 0, .int .i64 0, .int .i64 0, .string ⟨#[]⟩, .slice none 0 0], .int .i64 1]) (by simp [results, Tryd.results11, go_sem, k7.c0, k7.c1, k7.c2, k7.c3, k7.c4, k7.c5, k7.c6]) rfl ⟨⟨noAV, rfl, rfl, noAV_own _ _, parted_nil⟩, below_7 hb0 (by omega)⟩
set_option maxRecDepth 100000 in
set_option maxHeartbeats 8000000 in
theorem skip_none (hV : ValidOk) (hC : CloneOk) (z d s l a : Int) (x : AV) (J : Nat) (r : HomR) (w : World) (hT : Tabs w) (hlab : x.lab.size ≤ 4294967296) (hn : x.hs.length ≤ 1048576) (ht : HShort 1048576 x.hs) (ho : Ok z d s l a) (hx : x.In w w.heap.size) (hg : anc.Good z d s l x.d) (hr : x.hs[J]? = some r) (hnx : r.nx = d + 1 + s) :
    Calls Tryd.prog 11 #[.agg #[.int .i64 z, .int .i64 d, .int .i64 s, .int .i64 l, .int .i64 a], x.v, .int .i64 J] w fun e w' => AnsP w.heap.size noAnc 10 e w' ∧ Below w.heap.size w w' := by
  obtain ⟨⟨q1, q2⟩, q30⟩ := home_in hg (hds_get hr)
  have q3 : d + 1 ≤ r.nx ∧ r.nx ≤ d + 1 + s := q30
  clear q30
  have q4 : (d + 1 + s - r.nx == 0) = true := beq_iff_eq.2 (by omega)
  have HNX := Lib.hid hnx
  have HNB : Hid (0 ≤ r.nx ∧ r.nx ≤ 7) := Lib.hid (by obtain ⟨-, o2, o3, -⟩ := id ho; omega)
  clear hnx
  have HK := Lib.hid (show ∀ W, Below w.heap.size w W → Calls Tryd.prog 26 #[.agg #[.int .i64 z, .int .i64 d, .int .i64 s, .int .i64 l, .int .i64 a], x.v, .int .i64 J] W fun e w' => e = .returned (.int .i64 0) ∧ Below W.heap.size W w' from fun W hW => zone_any hV true z d s l a x J W (tn hT hW) (hx.next hW) hlab (iff_of_true rfl ⟨ho, hg, q1, q2⟩))
  have HI := Lib.hid (show ∀ W, Calls Tryd.prog 27 #[.agg #[.int .i64 z, .int .i64 d, .int .i64 s, .int .i64 l, .int .i64 a], .agg #[.slice r.A r.ps.length r.c, .int .i64 r.nx, .int .i64 r.rt]] W fun e w' => e = .returned (.int .i64 (d + 1 + s - r.nx)) ∧ Below W.heap.size W w' from fun W => count_any z d s l a r.nx r.rt r.A r.ps.length r.c W ho q3)
  have HY := Lib.hid (show ∀ W, Below w.heap.size w W → Calls Tryd.prog 28 #[x.v] W fun e w' => (∃ y : AV, e = .returned y.v ∧ y.d = x.d ∧ y.Own w' W.heap.size ∧ Parted y.hs) ∧ Below W.heap.size W w' from fun W hW => copy_any hC x W (hx.next hW) hlab hn ht)
  have HX := Lib.hid hx
  have HR := Lib.hid hr
  unfold AV.v
  have GG := ((g5_new w z d s l a).keep (bl (w.alloc (.cells #[.int .i64 z, .int .i64 d, .int .i64 s, .int .i64 l, .int .i64 a] 23)) (.cells #[.int .i64 x.gen, .int .i64 x.ep, .int .i64 x.pos, .int .i64 x.seq, .int .i64 x.last, .string x.lab, .slice x.HA x.hs.length x.hc] 26)) (by simp)).keep (bl ((w.alloc (.cells #[.int .i64 z, .int .i64 d, .int .i64 s, .int .i64 l, .int .i64 a] 23)).alloc (.cells #[.int .i64 x.gen, .int .i64 x.ep, .int .i64 x.pos, .int .i64 x.seq, .int .i64 x.last, .string x.lab, .slice x.HA x.hs.length x.hc] 26)) (.cells #[.int .i64 0, .int .i64 0, .int .i64 0, .int .i64 0, .int .i64 0, .string ⟨#[]⟩, .slice none 0 0] 26)) (by simp; omega)
  have FF := ac_new (w.alloc (.cells #[.int .i64 z, .int .i64 d, .int .i64 s, .int .i64 l, .int .i64 a] 23)) x
  rw [show (w.alloc (.cells #[.int .i64 z, .int .i64 d, .int .i64 s, .int .i64 l, .int .i64 a] 23)).heap.size = w.heap.size + 1 by simp] at FF
  replace FF := FF.keep (bl ((w.alloc (.cells #[.int .i64 z, .int .i64 d, .int .i64 s, .int .i64 l, .int .i64 a] 23)).alloc (.cells #[.int .i64 x.gen, .int .i64 x.ep, .int .i64 x.pos, .int .i64 x.seq, .int .i64 x.last, .string x.lab, .slice x.HA x.hs.length x.hc] 26)) (.cells #[.int .i64 0, .int .i64 0, .int .i64 0, .int .i64 0, .int .i64 0, .string ⟨#[]⟩, .slice none 0 0] 26)) (by simp)
  have hb0 := kal (kal (bl w (.cells #[.int .i64 z, .int .i64 d, .int .i64 s, .int .i64 l, .int .i64 a] 23)) (.cells #[.int .i64 x.gen, .int .i64 x.ep, .int .i64 x.pos, .int .i64 x.seq, .int .i64 x.last, .string x.lab, .slice x.HA x.hs.length x.hc] 26)) (.cells #[.int .i64 0, .int .i64 0, .int .i64 0, .int .i64 0, .int .i64 0, .string ⟨#[]⟩, .slice none 0 0] 26)
  have P := sev_new ((w.alloc (.cells #[.int .i64 z, .int .i64 d, .int .i64 s, .int .i64 l, .int .i64 a] 23)).alloc (.cells #[.int .i64 x.gen, .int .i64 x.ep, .int .i64 x.pos, .int .i64 x.seq, .int .i64 x.last, .string x.lab, .slice x.HA x.hs.length x.hc] 26)) (.int .i64 0) (.int .i64 0) (.int .i64 0) (.int .i64 0) (.int .i64 0) (.string ⟨#[]⟩) (.slice none 0 0) 26
  rw [show ((w.alloc (.cells #[.int .i64 z, .int .i64 d, .int .i64 s, .int .i64 l, .int .i64 a] 23)).alloc (.cells #[.int .i64 x.gen, .int .i64 x.ep, .int .i64 x.pos, .int .i64 x.seq, .int .i64 x.last, .string x.lab, .slice x.HA x.hs.length x.hc] 26)).heap.size = w.heap.size + 2 by simp] at P
  have l1 : w.heap.size + 2 < (((w.alloc (.cells #[.int .i64 z, .int .i64 d, .int .i64 s, .int .i64 l, .int .i64 a] 23)).alloc (.cells #[.int .i64 x.gen, .int .i64 x.ep, .int .i64 x.pos, .int .i64 x.seq, .int .i64 x.last, .string x.lab, .slice x.HA x.hs.length x.hc] 26)).alloc (.cells #[.int .i64 0, .int .i64 0, .int .i64 0, .int .i64 0, .int .i64 0, .string ⟨#[]⟩, .slice none 0 0] 26)).heap.size := by simp
  clear hx hg q3 hr ho hT hlab hn ht
  unfold AV.v at HK
  go_enter Tryd.func11, Tryd.ntmps11
  go_upto_region 1 with fail
  generalize ((w.alloc (.cells #[.int .i64 z, .int .i64 d, .int .i64 s, .int .i64 l, .int .i64 a] 23)).alloc (.cells #[.int .i64 x.gen, .int .i64 x.ep, .int .i64 x.pos, .int .i64 x.seq, .int .i64 x.last, .string x.lab, .slice x.HA x.hs.length x.hc] 26)).alloc (.cells #[.int .i64 0, .int .i64 0, .int .i64 0, .int .i64 0, .int .i64 0, .string ⟨#[]⟩, .slice none 0 0] 26) = w0 at *
  obtain ⟨c0, c1, c2, c3, c4, c5, c6⟩ := id FF
  obtain ⟨g0, g1, g2, g3, g4⟩ := id GG
  go_upto_region 4 with (go_at_call 26; (with_reducible refine (HK.out _ hb0).mono ?_); rintro e wq ⟨rfl, hbq⟩; replace FF := FF.keep hbq (by omega); replace GG := GG.keep hbq (by omega); replace P := P.keep hbq (by omega); replace l1 := Nat.lt_of_lt_of_le l1 hbq.size; clear c0 c1 c2 c3 c4 c5 c6 g0 g1 g2 g3 g4; obtain ⟨c0, c1, c2, c3, c4, c5, c6⟩ := id FF; obtain ⟨g0, g1, g2, g3, g4⟩ := id GG; replace hb0 := bt hb0 hbq; clear hbq)
  obtain ⟨w1, rfl⟩ : ∃ u, u = wq := ⟨wq, rfl⟩
  clear HK
  obtain ⟨hJ, hJe⟩ := List.getElem?_eq_some_iff.1 HR.out
  have HXW := HX.out.next hb0
  obtain ⟨b1, off, r', hA, hb1, r0, r1, r2, m1, -, e1, -⟩ := home_at HXW.hh HXW.hi hJ
  rw [HR.out] at e1
  obtain rfl := Option.some.inj e1
  have hcap := HXW.hl
  replace c6 := FF.c6
  rw [hA] at c6
  have i1 : (J : Int) < (x.hs.length : Int) := by omega
  have i2 : (0 : Int) ≤ (J : Int) := by omega
  have i3 : (x.hs.length : Int) ≤ (x.hc : Int) := by omega
  have HHA := Lib.hid hA
  clear HXW m1 hcap hA
  have HF := Lib.hid (show ∀ W, Below w1.heap.size w1 W → W.cell? ⟨w.heap.size, 0, none⟩ = some (.int .i64 z) ∧ W.cell? ⟨w.heap.size, 1, none⟩ = some (.int .i64 d) ∧ W.cell? ⟨w.heap.size, 2, none⟩ = some (.int .i64 s) ∧ W.cell? ⟨w.heap.size, 3, none⟩ = some (.int .i64 l) ∧ W.cell? ⟨w.heap.size, 4, none⟩ = some (.int .i64 a) ∧ W.cell? ⟨w.heap.size + 1, 6, none⟩ = some (.slice (some ⟨b1, off, none⟩) x.hs.length x.hc) ∧ W.cell? ⟨b1, off + J * 3, none⟩ = some (.slice r.A r.ps.length r.c) ∧ W.cell? ⟨b1, off + J * 3 + 1, none⟩ = some (.int .i64 r.nx) ∧ W.cell? ⟨b1, off + J * 3 + 2, none⟩ = some (.int .i64 r.rt) ∧ Below w1.heap.size w1 W from fun W h => by
    obtain ⟨g0, g1, g2, g3, g4⟩ := GG.keep h (by omega)
    exact ⟨g0, g1, g2, g3, g4, kst h (by omega) c6, kst h (by omega) r0, kst h (by omega) r1, kst h (by omega) r2, h⟩)
  clear g0 g1 g2 g3 g4 c0 c1 c2 c3 c4 c5 r0 r1 r2 c6
  go_region_held3 (fun W => W.cell? ⟨w.heap.size, 0, none⟩ = some (.int .i64 z) ∧ W.cell? ⟨w.heap.size, 1, none⟩ = some (.int .i64 d) ∧ W.cell? ⟨w.heap.size, 2, none⟩ = some (.int .i64 s) ∧ W.cell? ⟨w.heap.size, 3, none⟩ = some (.int .i64 l) ∧ W.cell? ⟨w.heap.size, 4, none⟩ = some (.int .i64 a) ∧ W.cell? ⟨w.heap.size + 1, 6, none⟩ = some (.slice (some ⟨b1, off, none⟩) x.hs.length x.hc) ∧ W.cell? ⟨b1, off + J * 3, none⟩ = some (.slice r.A r.ps.length r.c) ∧ W.cell? ⟨b1, off + J * 3 + 1, none⟩ = some (.int .i64 r.nx) ∧ W.cell? ⟨b1, off + J * 3 + 2, none⟩ = some (.int .i64 r.rt) ∧ Below w1.heap.size w1 W)
    ((refine HF.out _ ?_; first
      | with_reducible exact below_dr (Below.refl _ _)
      | with_reducible exact hb3
      | with_reducible exact hb2
      | fail))
    (first
      | (go_at_call 27; (with_reducible refine (HI.out _).mono ?_); rintro e w2 ⟨rfl, hbq⟩; have hb2 := bt (below_dr (Below.refl w1.heap.size w1)) hbq; clear hbq)
      | fail)
  replace P := P.keep hb2 (by omega)
  replace hb0 := bt hb0 hb2
  replace FF := FF.keep hb2 (by omega)
  have hz2 := hb2.size
  go_split_ands
  clear HF GG
  obtain ⟨z0, z1, z2, z3, z4, z5, z6, f0, f1, f2, f3, f4, f5, f6⟩ := id P
  clear FF
  go_wp2_with fail
  have k7 := (((((((P.set0 (.int .i64 0)).set1 (.int .i64 0)).set2 (.int .i64 0)).set3 (.int .i64 0)).set4 (.int .i64 0)).set5 (.string ⟨#[]⟩)).set6 (.slice none 0 0))
  exact bodyPost_ret (v := .tuple #[.agg #[.int .i64 0, .int .i64 0, .int .i64 0, .int .i64 0, .int .i64 0, .string ⟨#[]⟩, .slice none 0 0], .int .i64 10]) (by simp [results, Tryd.results11, go_sem, k7.c0, k7.c1, k7.c2, k7.c3, k7.c4, k7.c5, k7.c6]) rfl ⟨⟨noAV, rfl, rfl, noAV_own _ _, parted_nil⟩, below_7 hb0 (by omega)⟩
set_option maxRecDepth 100000 in
set_option maxHeartbeats 8000000 in
theorem skip_yes (hV : ValidOk) (hC : CloneOk) (z d s l a : Int) (x : AV) (J : Nat) (r : HomR) (w : World) (hT : Tabs w) (hlab : x.lab.size ≤ 4294967296) (hn : x.hs.length ≤ 1048576) (ht : HShort 1048576 x.hs) (ho : Ok z d s l a) (hx : x.In w w.heap.size) (hg : anc.Good z d s l x.d) (hr : x.hs[J]? = some r) (hnx : r.nx < d + 1 + s) :
    Calls Tryd.prog 11 #[.agg #[.int .i64 z, .int .i64 d, .int .i64 s, .int .i64 l, .int .i64 a], x.v, .int .i64 J] w fun e w' => AnsP w.heap.size (skipA x.d J r.d) 0 e w' ∧ Below w.heap.size w w' := by
  obtain ⟨⟨q1, q2⟩, q30⟩ := home_in hg (hds_get hr)
  have q3 : d + 1 ≤ r.nx ∧ r.nx ≤ d + 1 + s := q30
  clear q30
  have q4 : (d + 1 + s - r.nx == 0) = false := beq_eq_false_iff_ne.2 (by omega)
  have HNX := Lib.hid hnx
  have HNB : Hid (0 ≤ r.nx ∧ r.nx ≤ 7) := Lib.hid (by obtain ⟨-, o2, o3, -⟩ := id ho; omega)
  clear hnx
  have HK := Lib.hid (show ∀ W, Below w.heap.size w W → Calls Tryd.prog 26 #[.agg #[.int .i64 z, .int .i64 d, .int .i64 s, .int .i64 l, .int .i64 a], x.v, .int .i64 J] W fun e w' => e = .returned (.int .i64 0) ∧ Below W.heap.size W w' from fun W hW => zone_any hV true z d s l a x J W (tn hT hW) (hx.next hW) hlab (iff_of_true rfl ⟨ho, hg, q1, q2⟩))
  have HI := Lib.hid (show ∀ W, Calls Tryd.prog 27 #[.agg #[.int .i64 z, .int .i64 d, .int .i64 s, .int .i64 l, .int .i64 a], .agg #[.slice r.A r.ps.length r.c, .int .i64 r.nx, .int .i64 r.rt]] W fun e w' => e = .returned (.int .i64 (d + 1 + s - r.nx)) ∧ Below W.heap.size W w' from fun W => count_any z d s l a r.nx r.rt r.A r.ps.length r.c W ho q3)
  have HY := Lib.hid (show ∀ W, Below w.heap.size w W → Calls Tryd.prog 28 #[x.v] W fun e w' => (∃ y : AV, e = .returned y.v ∧ y.d = x.d ∧ y.Own w' W.heap.size ∧ Parted y.hs) ∧ Below W.heap.size W w' from fun W hW => copy_any hC x W (hx.next hW) hlab hn ht)
  have HX := Lib.hid hx
  have HR := Lib.hid hr
  unfold AV.v
  have GG := ((g5_new w z d s l a).keep (bl (w.alloc (.cells #[.int .i64 z, .int .i64 d, .int .i64 s, .int .i64 l, .int .i64 a] 23)) (.cells #[.int .i64 x.gen, .int .i64 x.ep, .int .i64 x.pos, .int .i64 x.seq, .int .i64 x.last, .string x.lab, .slice x.HA x.hs.length x.hc] 26)) (by simp)).keep (bl ((w.alloc (.cells #[.int .i64 z, .int .i64 d, .int .i64 s, .int .i64 l, .int .i64 a] 23)).alloc (.cells #[.int .i64 x.gen, .int .i64 x.ep, .int .i64 x.pos, .int .i64 x.seq, .int .i64 x.last, .string x.lab, .slice x.HA x.hs.length x.hc] 26)) (.cells #[.int .i64 0, .int .i64 0, .int .i64 0, .int .i64 0, .int .i64 0, .string ⟨#[]⟩, .slice none 0 0] 26)) (by simp; omega)
  have FF := ac_new (w.alloc (.cells #[.int .i64 z, .int .i64 d, .int .i64 s, .int .i64 l, .int .i64 a] 23)) x
  rw [show (w.alloc (.cells #[.int .i64 z, .int .i64 d, .int .i64 s, .int .i64 l, .int .i64 a] 23)).heap.size = w.heap.size + 1 by simp] at FF
  replace FF := FF.keep (bl ((w.alloc (.cells #[.int .i64 z, .int .i64 d, .int .i64 s, .int .i64 l, .int .i64 a] 23)).alloc (.cells #[.int .i64 x.gen, .int .i64 x.ep, .int .i64 x.pos, .int .i64 x.seq, .int .i64 x.last, .string x.lab, .slice x.HA x.hs.length x.hc] 26)) (.cells #[.int .i64 0, .int .i64 0, .int .i64 0, .int .i64 0, .int .i64 0, .string ⟨#[]⟩, .slice none 0 0] 26)) (by simp)
  have hb0 := kal (kal (bl w (.cells #[.int .i64 z, .int .i64 d, .int .i64 s, .int .i64 l, .int .i64 a] 23)) (.cells #[.int .i64 x.gen, .int .i64 x.ep, .int .i64 x.pos, .int .i64 x.seq, .int .i64 x.last, .string x.lab, .slice x.HA x.hs.length x.hc] 26)) (.cells #[.int .i64 0, .int .i64 0, .int .i64 0, .int .i64 0, .int .i64 0, .string ⟨#[]⟩, .slice none 0 0] 26)
  have P := sev_new ((w.alloc (.cells #[.int .i64 z, .int .i64 d, .int .i64 s, .int .i64 l, .int .i64 a] 23)).alloc (.cells #[.int .i64 x.gen, .int .i64 x.ep, .int .i64 x.pos, .int .i64 x.seq, .int .i64 x.last, .string x.lab, .slice x.HA x.hs.length x.hc] 26)) (.int .i64 0) (.int .i64 0) (.int .i64 0) (.int .i64 0) (.int .i64 0) (.string ⟨#[]⟩) (.slice none 0 0) 26
  rw [show ((w.alloc (.cells #[.int .i64 z, .int .i64 d, .int .i64 s, .int .i64 l, .int .i64 a] 23)).alloc (.cells #[.int .i64 x.gen, .int .i64 x.ep, .int .i64 x.pos, .int .i64 x.seq, .int .i64 x.last, .string x.lab, .slice x.HA x.hs.length x.hc] 26)).heap.size = w.heap.size + 2 by simp] at P
  have l1 : w.heap.size + 2 < (((w.alloc (.cells #[.int .i64 z, .int .i64 d, .int .i64 s, .int .i64 l, .int .i64 a] 23)).alloc (.cells #[.int .i64 x.gen, .int .i64 x.ep, .int .i64 x.pos, .int .i64 x.seq, .int .i64 x.last, .string x.lab, .slice x.HA x.hs.length x.hc] 26)).alloc (.cells #[.int .i64 0, .int .i64 0, .int .i64 0, .int .i64 0, .int .i64 0, .string ⟨#[]⟩, .slice none 0 0] 26)).heap.size := by simp
  clear hx hg q3 hr ho hT hlab hn ht
  unfold AV.v at HK
  go_enter Tryd.func11, Tryd.ntmps11
  go_upto_region 1 with fail
  generalize ((w.alloc (.cells #[.int .i64 z, .int .i64 d, .int .i64 s, .int .i64 l, .int .i64 a] 23)).alloc (.cells #[.int .i64 x.gen, .int .i64 x.ep, .int .i64 x.pos, .int .i64 x.seq, .int .i64 x.last, .string x.lab, .slice x.HA x.hs.length x.hc] 26)).alloc (.cells #[.int .i64 0, .int .i64 0, .int .i64 0, .int .i64 0, .int .i64 0, .string ⟨#[]⟩, .slice none 0 0] 26) = w0 at *
  obtain ⟨c0, c1, c2, c3, c4, c5, c6⟩ := id FF
  obtain ⟨g0, g1, g2, g3, g4⟩ := id GG
  go_upto_region 4 with (go_at_call 26; (with_reducible refine (HK.out _ hb0).mono ?_); rintro e wq ⟨rfl, hbq⟩; replace FF := FF.keep hbq (by omega); replace GG := GG.keep hbq (by omega); replace P := P.keep hbq (by omega); replace l1 := Nat.lt_of_lt_of_le l1 hbq.size; clear c0 c1 c2 c3 c4 c5 c6 g0 g1 g2 g3 g4; obtain ⟨c0, c1, c2, c3, c4, c5, c6⟩ := id FF; obtain ⟨g0, g1, g2, g3, g4⟩ := id GG; replace hb0 := bt hb0 hbq; clear hbq)
  obtain ⟨w1, rfl⟩ : ∃ u, u = wq := ⟨wq, rfl⟩
  clear HK
  obtain ⟨hJ, hJe⟩ := List.getElem?_eq_some_iff.1 HR.out
  have HXW := HX.out.next hb0
  obtain ⟨b1, off, r', hA, hb1, r0, r1, r2, m1, -, e1, -⟩ := home_at HXW.hh HXW.hi hJ
  rw [HR.out] at e1
  obtain rfl := Option.some.inj e1
  have hcap := HXW.hl
  replace c6 := FF.c6
  rw [hA] at c6
  have i1 : (J : Int) < (x.hs.length : Int) := by omega
  have i2 : (0 : Int) ≤ (J : Int) := by omega
  have i3 : (x.hs.length : Int) ≤ (x.hc : Int) := by omega
  have HHA := Lib.hid hA
  clear HXW m1 hcap hA
  have HF := Lib.hid (show ∀ W, Below w1.heap.size w1 W → W.cell? ⟨w.heap.size, 0, none⟩ = some (.int .i64 z) ∧ W.cell? ⟨w.heap.size, 1, none⟩ = some (.int .i64 d) ∧ W.cell? ⟨w.heap.size, 2, none⟩ = some (.int .i64 s) ∧ W.cell? ⟨w.heap.size, 3, none⟩ = some (.int .i64 l) ∧ W.cell? ⟨w.heap.size, 4, none⟩ = some (.int .i64 a) ∧ W.cell? ⟨w.heap.size + 1, 6, none⟩ = some (.slice (some ⟨b1, off, none⟩) x.hs.length x.hc) ∧ W.cell? ⟨b1, off + J * 3, none⟩ = some (.slice r.A r.ps.length r.c) ∧ W.cell? ⟨b1, off + J * 3 + 1, none⟩ = some (.int .i64 r.nx) ∧ W.cell? ⟨b1, off + J * 3 + 2, none⟩ = some (.int .i64 r.rt) ∧ Below w1.heap.size w1 W from fun W h => by
    obtain ⟨g0, g1, g2, g3, g4⟩ := GG.keep h (by omega)
    exact ⟨g0, g1, g2, g3, g4, kst h (by omega) c6, kst h (by omega) r0, kst h (by omega) r1, kst h (by omega) r2, h⟩)
  clear g0 g1 g2 g3 g4 c0 c1 c2 c3 c4 c5 r0 r1 r2 c6
  go_region_held3 (fun W => W.cell? ⟨w.heap.size, 0, none⟩ = some (.int .i64 z) ∧ W.cell? ⟨w.heap.size, 1, none⟩ = some (.int .i64 d) ∧ W.cell? ⟨w.heap.size, 2, none⟩ = some (.int .i64 s) ∧ W.cell? ⟨w.heap.size, 3, none⟩ = some (.int .i64 l) ∧ W.cell? ⟨w.heap.size, 4, none⟩ = some (.int .i64 a) ∧ W.cell? ⟨w.heap.size + 1, 6, none⟩ = some (.slice (some ⟨b1, off, none⟩) x.hs.length x.hc) ∧ W.cell? ⟨b1, off + J * 3, none⟩ = some (.slice r.A r.ps.length r.c) ∧ W.cell? ⟨b1, off + J * 3 + 1, none⟩ = some (.int .i64 r.nx) ∧ W.cell? ⟨b1, off + J * 3 + 2, none⟩ = some (.int .i64 r.rt) ∧ Below w1.heap.size w1 W)
    ((refine HF.out _ ?_; first
      | with_reducible exact below_dr (Below.refl _ _)
      | with_reducible exact hb3
      | with_reducible exact hb2
      | fail))
    (first
      | (go_at_call 27; (with_reducible refine (HI.out _).mono ?_); rintro e w2 ⟨rfl, hbq⟩; have hb2 := bt (below_dr (Below.refl w1.heap.size w1)) hbq; clear hbq)
      | fail)
  replace P := P.keep hb2 (by omega)
  replace hb0 := bt hb0 hb2
  replace FF := FF.keep hb2 (by omega)
  have hz2 := hb2.size
  go_split_ands
  clear HF GG
  obtain ⟨c0, c1, c2, c3, c4, c5, -⟩ := id FF
  have HY2 := HY.out _ hb0
  unfold AV.v at HY2
  rw [HHA.out] at HY2
  replace HY2 := Lib.hid HY2
  clear HY FF
  go_upto_region 7 with (go_at_call 28; (with_reducible refine HY2.out.mono ?_); rintro e w3 ⟨⟨y, hey, hyd, hyo, hyp⟩, hb3⟩; subst hey)
  have hge : y.hs.length = x.hs.length := by
    have h9 := congrArg (fun u : Anc => u.hs.length) hyd
    have h8 : (hds y.hs).length = (hds x.hs).length := h9
    rwa [hds_length, hds_length] at h8
  obtain ⟨r', hr', hrd⟩ : ∃ r', y.hs[J]? = some r' ∧ r'.d = r.d := hds_at (by
    have h9 : hds y.hs = hds x.hs := congrArg Anc.hs hyd
    rw [h9]; exact hds_get HR.out)
  have hnr : r'.nx = r.nx := congrArg Hom.nx hrd
  have hx3 := bl w3 (.cells #[.int .i64 y.gen, .int .i64 y.ep, .int .i64 y.pos, .int .i64 y.seq, .int .i64 y.last, .string y.lab, .slice y.HA y.hs.length y.hc] 26)
  have hz3 := hb3.size
  obtain ⟨g, hgA, hgb, hgl, hgc, -, n1, fz⟩ := own_next hyo hr'
  have n1' := kst hx3 hgl n1
  have fz' := (hx3.frozen (p := ⟨g, J * 3 + 1, none⟩) hgl).trans (fz (J * 3 + 1))
  have PY := sev_new w3 (.int .i64 y.gen) (.int .i64 y.ep) (.int .i64 y.pos) (.int .i64 y.seq) (.int .i64 y.last) (.string y.lab) (.slice y.HA y.hs.length y.hc) 26
  have yo4 := Lib.hid (OwnH.below hyo hx3)
  have P4 := (P.keep hb3 (by omega)).keep hx3 (by omega)
  have hb4 := bt (bt hb0 hb3) hx3
  have l4 : w3.heap.size < (w3.alloc (.cells #[.int .i64 y.gen, .int .i64 y.ep, .int .i64 y.pos, .int .i64 y.seq, .int .i64 y.last, .string y.lab, .slice y.HA y.hs.length y.hc] 26)).heap.size := by simp
  obtain ⟨gY, hgY⟩ : ∃ q, q = w3.heap.size := ⟨_, rfl⟩
  rw [← hgY] at PY hgl l4 ⊢
  have i4 : (J : Int) < (y.hs.length : Int) := by omega
  have i5 : (y.hs.length : Int) ≤ (y.hc : Int) := by omega
  have v1 : IntKind.i64.wrap (r'.nx + 1) = r'.nx + 1 := w6 _ (by have := HNB.out; omega) (by have := HNB.out; omega)
  have hlt2 : w.heap.size + 2 < gY := by omega
  have HGA := Lib.hid hgA
  have HYD := Lib.hid hyd
  have HRD := Lib.hid hrd
  have HRJ := Lib.hid hr'
  clear hge hnr hx3 hz3 hgc n1 fz hyo hgY hb3 P HI HX HR HHA hyd hrd hr' c0 c1 c2 c3 c4 c5 hgA
  generalize w3.alloc (.cells #[.int .i64 y.gen, .int .i64 y.ep, .int .i64 y.pos, .int .i64 y.seq, .int .i64 y.last, .string y.lab, .slice y.HA y.hs.length y.hc] 26) = w4 at *
  rw [HGA.out] at PY
  obtain ⟨y0, y1, y2, y3, y4, y5, y6, -, -, -, -, -, -, -⟩ := id PY
  go_upto_region 8 with fail
  have own5 := Lib.hid (AV.Own.set_next yo4.out HRJ.out HGA.out (r'.nx + 1))
  have PY5 := PY.apart (show gY ≠ g by omega) (o := J * 3 + 1) (.int .i64 (r'.nx + 1))
  have P5 := P4.apart (show w.heap.size + 2 ≠ g by omega) (o := J * 3 + 1) (.int .i64 (r'.nx + 1))
  have hb5 := hb4.setCell (p := ⟨g, J * 3 + 1, none⟩) (by show w.heap.size ≤ g; omega) (.int .i64 (r'.nx + 1))
  clear y0 y1 y2 y3 y4 y5 y6 n1' fz' PY P4 hb4 l4 v1
  generalize w4.setCell ⟨g, J * 3 + 1, none⟩ (.int .i64 (r'.nx + 1)) = w5 at *
  obtain ⟨y0, y1, y2, y3, y4, y5, y6, -, -, -, -, -, -, -⟩ := id PY5
  obtain ⟨z0, z1, z2, z3, z4, z5, z6, f0, f1, f2, f3, f4, f5, f6⟩ := id P5
  go_wp2_with fail
  have k7 := (((((((P5.set0 (.int .i64 y.gen)).set1 (.int .i64 y.ep)).set2 (.int .i64 y.pos)).set3 (.int .i64 y.seq)).set4 (.int .i64 y.last)).set5 (.string y.lab)).set6 (.slice (some ⟨g, 0, none⟩) y.hs.length y.hc))
  have hw : w.heap.size + 2 < w2.heap.size := by omega
  have hO7 := (((((((OwnH.cell_set own5.out (o := 0) hw (.int .i64 y.gen)).cell_set (o := 1) hw (.int .i64 y.ep)).cell_set (o := 2) hw (.int .i64 y.pos)).cell_set (o := 3) hw (.int .i64 y.seq)).cell_set (o := 4) hw (.int .i64 y.last)).cell_set (o := 5) hw (.string y.lab)).cell_set (o := 6) hw (.slice (some ⟨g, 0, none⟩) y.hs.length y.hc))
  have HO7 := Lib.hid (hO7.less (show w.heap.size ≤ w2.heap.size by omega))
  clear hO7
  exact bodyPost_ret (v := .tuple #[.agg #[.int .i64 y.gen, .int .i64 y.ep, .int .i64 y.pos, .int .i64 y.seq, .int .i64 y.last, .string y.lab, .slice (some ⟨g, 0, none⟩) y.hs.length y.hc], .int .i64 0]) (by simp [results, Tryd.results11, go_sem, k7.c0, k7.c1, k7.c2, k7.c3, k7.c4, k7.c5, k7.c6]) rfl ⟨⟨{ y with hs := y.hs.set J { r' with nx := r'.nx + 1 } }, by unfold AV.v; rw [List.length_set, HGA.out], skip_d HYD.out HRD.out, HO7.out, hyp.set HRJ.out rfl⟩, below_7 hb5 (by omega)⟩
end Go.Proofs.YthbjfpgcinmjiaaDoor.plc
