/-
  The developers' own typed, Check, Bytes, Cell. Conditions: byte strings shorter than 2^20.
-/
import Derived.Test.YtplhdnhigboeaaaRcYD
namespace Go.Proofs.Ytplhdnhigboeaaa.lrc
open Go.RowKit Go.Lib
open Go.Proofs.Ytplhdnhigboeaaa.gmt (Ok)
open Go.Proofs.Ytplhdnhigboeaaa.anc (bl kal kst ks bm ka)
open Go.Proofs.Ytplhdnhigboeaaa.tbl (C1 c1_new G5 g5_new)
open Go.Proofs.Ytplhdnhigboeaaa.img
open Go.Proofs.Ytplhdnhigboeaaa.pck (le le_length num)

set_option maxRecDepth 100000 in
set_option maxHeartbeats 8000000 in
theorem typ_go (k v : Bool) (V : Value) (z d s l a : Int) (r : RcR) (n : Nat) (w : World) (ho : Ok z d s l a)
    (hK : ∀ W, Below w.heap.size w W → Calls Try.prog 57 #[.agg #[.int .i64 r.kd, .int .i64 r.sq, .int .i64 r.ep, .int .i64 r.ps, .int .i64 r.nm, .int .i64 r.i.z, .int .i64 r.i.wh, .slice r.i.A n r.i.c]] W fun e w' => e = .returned (.tuple #[V, .bool k]) ∧ Below W.heap.size W w')
    (hV : k = true → ∀ W, Below w.heap.size w W → Calls Try.prog 58 #[.agg #[.int .i64 z, .int .i64 d, .int .i64 s, .int .i64 l, .int .i64 a], V] W fun e w' => e = .returned (.bool v) ∧ Below W.heap.size W w') :
    Calls Try.prog 32 #[.agg #[.int .i64 z, .int .i64 d, .int .i64 s, .int .i64 l, .int .i64 a], .agg #[.int .i64 r.kd, .int .i64 r.sq, .int .i64 r.ep, .int .i64 r.ps, .int .i64 r.nm, .int .i64 r.i.z, .int .i64 r.i.wh, .slice r.i.A n r.i.c]] w fun e w' => ((k && v) = true ∧ e = .returned (.tuple #[V, .int .i64 0]) ∨ (k && v) = false ∧ e = .returned (.tuple #[.nilIface, .int .i64 1])) ∧ Below w.heap.size w w' := by
  have s1 : (w.alloc (.cells #[.int .i64 z, .int .i64 d, .int .i64 s, .int .i64 l, .int .i64 a] 23)).heap.size = w.heap.size + 1 := by simp
  have hx2 := bl (w.alloc (.cells #[.int .i64 z, .int .i64 d, .int .i64 s, .int .i64 l, .int .i64 a] 23)) (.cells #[.int .i64 r.kd, .int .i64 r.sq, .int .i64 r.ep, .int .i64 r.ps, .int .i64 r.nm, .int .i64 r.i.z, .int .i64 r.i.wh, .slice r.i.A n r.i.c] 28)
  have GG := (g5_new w z d s l a).keep hx2 (by omega)
  have RR := c8_new (w.alloc (.cells #[.int .i64 z, .int .i64 d, .int .i64 s, .int .i64 l, .int .i64 a] 23)) (.int .i64 r.kd) (.int .i64 r.sq) (.int .i64 r.ep) (.int .i64 r.ps) (.int .i64 r.nm) (.int .i64 r.i.z) (.int .i64 r.i.wh) (.slice r.i.A n r.i.c) 28
  rw [s1] at RR
  have hw := kal (bl w (.cells #[.int .i64 z, .int .i64 d, .int .i64 s, .int .i64 l, .int .i64 a] 23)) (.cells #[.int .i64 r.kd, .int .i64 r.sq, .int .i64 r.ep, .int .i64 r.ps, .int .i64 r.nm, .int .i64 r.i.z, .int .i64 r.i.wh, .slice r.i.A n r.i.c] 28)
  have l2 : ((w.alloc (.cells #[.int .i64 z, .int .i64 d, .int .i64 s, .int .i64 l, .int .i64 a] 23)).alloc (.cells #[.int .i64 r.kd, .int .i64 r.sq, .int .i64 r.ep, .int .i64 r.ps, .int .i64 r.nm, .int .i64 r.i.z, .int .i64 r.i.wh, .slice r.i.A n r.i.c] 28)).heap.size = w.heap.size + 2 := by simp
  have HG := Lib.hid fun W => gmt.check_ok z d s l a W ho
  have HK := Lib.hid hK
  have HV := Lib.hid hV
  clear s1 hx2 hK hV ho
  go_enter Try.func32, Try.ntmps32
  go_upto_region 1 with fail
  generalize (w.alloc (.cells #[.int .i64 z, .int .i64 d, .int .i64 s, .int .i64 l, .int .i64 a] 23)).alloc (.cells #[.int .i64 r.kd, .int .i64 r.sq, .int .i64 r.ep, .int .i64 r.ps, .int .i64 r.nm, .int .i64 r.i.z, .int .i64 r.i.wh, .slice r.i.A n r.i.c] 28) = w0 at *
  obtain ⟨g0, g1, g2, g3, g4⟩ := id GG
  go_upto_region 4 with (go_at_call 34; (with_reducible refine (HG.out _).mono ?_); rintro e w2 ⟨rfl, hb2⟩)
  have G2 := GG.keep hb2 (by omega)
  have R2 := RR.keep hb2 (by omega)
  have B2 := bt hw hb2
  have l3 := hb2.size
  clear g0 g1 g2 g3 g4 GG RR
  obtain ⟨g0, g1, g2, g3, g4⟩ := id G2
  obtain ⟨r0, r1, r2, r3, r4, r5, r6, r7⟩ := id R2
  go_upto_region 5 with (go_at_call 57; (with_reducible refine (HK.out _ B2).mono ?_); rintro e w3 ⟨rfl, hb3⟩)
  clear r0 r1 r2 r3 r4 r5 r6 r7 R2 g0 g1 g2 g3 g4
  have G3 := G2.keep hb3 (by omega)
  have B3 := bt B2 hb3
  obtain ⟨g0, g1, g2, g3, g4⟩ := id G3
  cases k
  · go_wp2_with fail
    go_ret2
    exact ⟨.inr ⟨rfl, rfl⟩, B3⟩
  · cases v
    · go_wp2_with (go_at_call 58; (with_reducible refine (HV.out rfl _ B3).mono ?_); rintro e w4 ⟨rfl, hb4⟩)
      go_ret2
      exact ⟨.inr ⟨rfl, rfl⟩, bt B3 hb4⟩
    · go_wp2_with (go_at_call 58; (with_reducible refine (HV.out rfl _ B3).mono ?_); rintro e w4 ⟨rfl, hb4⟩)
      go_ret2
      exact ⟨.inl ⟨rfl, rfl⟩, bt B3 hb4⟩
def Typed (c : Bool) (r : RcR) (n : Nat) (e : Ending) : Prop := (c = true ∧ e = .returned (.tuple #[recV r n, .int .i64 0])) ∨ (c = false ∧ e = .returned (.tuple #[.nilIface, .int .i64 1]))
set_option maxRecDepth 100000 in
set_option maxHeartbeats 8000000 in
theorem typ_geo (z d s l a : Int) (r : RcR) (n : Nat) (w : World) (ho : ¬ Ok z d s l a) :
    Calls Try.prog 32 #[.agg #[.int .i64 z, .int .i64 d, .int .i64 s, .int .i64 l, .int .i64 a], .agg #[.int .i64 r.kd, .int .i64 r.sq, .int .i64 r.ep, .int .i64 r.ps, .int .i64 r.nm, .int .i64 r.i.z, .int .i64 r.i.wh, .slice r.i.A n r.i.c]] w fun e w' => Typed false r n e ∧ Below w.heap.size w w' := by
  have s1 : (w.alloc (.cells #[.int .i64 z, .int .i64 d, .int .i64 s, .int .i64 l, .int .i64 a] 23)).heap.size = w.heap.size + 1 := by simp
  have hx2 := bl (w.alloc (.cells #[.int .i64 z, .int .i64 d, .int .i64 s, .int .i64 l, .int .i64 a] 23)) (.cells #[.int .i64 r.kd, .int .i64 r.sq, .int .i64 r.ep, .int .i64 r.ps, .int .i64 r.nm, .int .i64 r.i.z, .int .i64 r.i.wh, .slice r.i.A n r.i.c] 28)
  have GG := (g5_new w z d s l a).keep hx2 (by omega)
  have hw := kal (bl w (.cells #[.int .i64 z, .int .i64 d, .int .i64 s, .int .i64 l, .int .i64 a] 23)) (.cells #[.int .i64 r.kd, .int .i64 r.sq, .int .i64 r.ep, .int .i64 r.ps, .int .i64 r.nm, .int .i64 r.i.z, .int .i64 r.i.wh, .slice r.i.A n r.i.c] 28)
  have HG := Lib.hid fun W => gmt.check_no z d s l a W ho
  clear s1 hx2 ho
  go_enter Try.func32, Try.ntmps32
  go_upto_region 1 with fail
  generalize (w.alloc (.cells #[.int .i64 z, .int .i64 d, .int .i64 s, .int .i64 l, .int .i64 a] 23)).alloc (.cells #[.int .i64 r.kd, .int .i64 r.sq, .int .i64 r.ep, .int .i64 r.ps, .int .i64 r.nm, .int .i64 r.i.z, .int .i64 r.i.wh, .slice r.i.A n r.i.c] 28) = w0 at *
  obtain ⟨g0, g1, g2, g3, g4⟩ := id GG
  go_wp2_with (go_at_call 34; (with_reducible refine (HG.out _).mono ?_); rintro e w2 ⟨rfl, hb2⟩)
  go_ret2
  exact ⟨.inr ⟨rfl, rfl⟩, bt hw hb2⟩
theorem typ_c (c : Bool) (z d s l a : Int) (r : RcR) (n : Nat) (w : World) (hx : BIn w w.heap.size r.i) (hn : r.i.l.length = n) (hn1 : n ≤ 1048576) (hc : c = true ↔ Ok z d s l a ∧ RecOk z d r.d) :
    Calls Try.prog 32 #[.agg #[.int .i64 z, .int .i64 d, .int .i64 s, .int .i64 l, .int .i64 a], .agg #[.int .i64 r.kd, .int .i64 r.sq, .int .i64 r.ep, .int .i64 r.ps, .int .i64 r.nm, .int .i64 r.i.z, .int .i64 r.i.wh, .slice r.i.A n r.i.c]] w fun e w' => Typed c r n e ∧ Below w.heap.size w w' := by
  by_cases ho : Ok z d s l a
  · replace hc := hc.trans (and_iff_right ho)
    have hq : r.i.l = [] ↔ n = 0 := by rw [← hn]; exact List.length_eq_zero_iff.symm
    by_cases h0 : r.kd = 0
    · have hV : recV r n = .iface 100 (.agg #[]) := by unfold recV; rw [if_pos h0]
      refine (typ_go c true (.iface 100 (.agg #[])) z d s l a r n w ho (fun W hW => ?_) (fun _ W _ => val0_c z d s l a W)).mono ?_
      · rw [h0]
        refine kind0_c W r.sq r.ep r.ps r.nm r.i.z r.i.wh r.i.A n r.i.c c (hc.trans ⟨fun h => ?_, fun h => ?_⟩)
        · rcases h with ⟨-, h1, h2, h3, h4, h5, h6, h7⟩ | ⟨-, h, -⟩ | ⟨-, h, -⟩
          · exact ⟨⟨h1, h2, h3, h4⟩, h5, h6, hq.1 h7⟩
          · exact absurd (h0.symm.trans h) (by decide)
          · exact absurd (h0.symm.trans h) (by decide)
        · exact .inl ⟨h0, h.1.1, h.1.2.1, h.1.2.2.1, h.1.2.2.2, h.2.1, h.2.2.1, hq.2 h.2.2.2⟩
      · rintro e w' ⟨h, hb⟩
        rw [Bool.and_true] at h
        exact ⟨by unfold Typed; rw [hV]; exact h, hb⟩
    by_cases h1 : r.kd = 1
    · have hV : recV r n = .iface 109 (.agg #[.int .i64 r.sq, .int .i64 r.ep, .int .i64 r.ps, .int .i64 r.nm, .int .i64 r.i.z, .int .i64 r.i.wh, .slice r.i.A n r.i.c]) := by unfold recV; rw [if_neg h0, if_pos h1]
      refine (typ_go true c (.iface 109 (.agg #[.int .i64 r.sq, .int .i64 r.ep, .int .i64 r.ps, .int .i64 r.nm, .int .i64 r.i.z, .int .i64 r.i.wh, .slice r.i.A n r.i.c])) z d s l a r n w ho (fun W hW => ?_) (fun _ W hW => ?_)).mono ?_
      · rw [h1]
        exact kind1_c W r.sq r.ep r.ps r.nm r.i.z r.i.wh r.i.A n r.i.c
      · refine val1_c c z d s l a r.sq r.ep r.ps r.nm r.i.z r.i.wh r.i.A n r.i.c r.i.l W ho (hx.next hW) hn hn1 (hc.trans ⟨fun h => ?_, fun h => ?_⟩)
        · rcases h with ⟨h, -⟩ | ⟨-, h, -⟩ | ⟨h3, -, h4, h5⟩
          · exact absurd h h0
          · exact absurd (h1.symm.trans h) (by decide)
          · exact ⟨h3, h4, h5⟩
        · exact .inr (.inr ⟨h.1, h1, h.2.1, h.2.2⟩)
      · rintro e w' ⟨h, hb⟩
        rw [Bool.true_and] at h
        exact ⟨by unfold Typed; rw [hV]; exact h, hb⟩
    by_cases h2 : r.kd = 2
    · have hV : recV r n = .iface 106 (.agg #[.int .i64 r.sq, .int .i64 r.ep, .int .i64 r.ps, .int .i64 r.nm]) := by unfold recV; rw [if_neg h0, if_neg h1]
      obtain ⟨b1, hb1⟩ := bool_is (r.i.z = 0 ∧ r.i.wh = 0 ∧ n = 0)
      obtain ⟨b2, hb2⟩ := bool_is ((NumOk r.sq ∧ NumOk r.ep ∧ (2 ≤ r.nm ∧ r.nm ≤ 30)) ∧ r.ps = r.nm - 1)
      have hcc : (b1 && b2) = c := by
        rw [Bool.eq_iff_iff, Bool.and_eq_true, hb1, hb2, hc]
        refine ⟨fun h => .inr (.inl ⟨h.2.1, h2, h.2.2, h.1.1, h.1.2.1, hq.2 h.1.2.2⟩), fun h => ?_⟩
        rcases h with ⟨h, -⟩ | ⟨h3, -, h4, h5, h6, h7⟩ | ⟨-, h, -⟩
        · exact absurd h h0
        · exact ⟨⟨h5, h6, hq.1 h7⟩, h3, h4⟩
        · exact absurd h h1
      refine (typ_go b1 b2 (.iface 106 (.agg #[.int .i64 r.sq, .int .i64 r.ep, .int .i64 r.ps, .int .i64 r.nm])) z d s l a r n w ho (fun W hW => ?_) (fun _ W hW => val2_c b2 z d s l a r.sq r.ep r.ps r.nm W hb2)).mono ?_
      · rw [h2]
        exact kind2_c W r.sq r.ep r.ps r.nm r.i.z r.i.wh r.i.A n r.i.c b1 hb1
      · rintro e w' ⟨h, hb⟩
        rw [hcc] at h
        exact ⟨by unfold Typed; rw [hV]; exact h, hb⟩
    · have hcf : c = false := bool_no hc fun h => by
        rcases h with ⟨h, -⟩ | ⟨-, h, -⟩ | ⟨-, h, -⟩
        · exact h0 h
        · exact h2 h
        · exact h1 h
      subst hcf
      refine (typ_go false false .nilIface z d s l a r n w ho (fun W hW => kind3_c W r.kd r.sq r.ep r.ps r.nm r.i.z r.i.wh r.i.A n r.i.c ⟨h0, h1, h2⟩) (fun h => absurd h Bool.false_ne_true)).mono ?_
      rintro e w' ⟨h, hb⟩
      rcases h with ⟨h, -⟩ | ⟨-, h⟩
      · exact absurd h Bool.false_ne_true
      · exact ⟨.inr ⟨rfl, h⟩, hb⟩
  · obtain rfl : c = false := bool_no hc fun h => ho h.1
    exact typ_geo z d s l a r n w ho
theorem encode_c (z d s l a : Int) (r : RcR) (n : Nat) (w : World) (ho : Ok z d s l a) (hx : BIn w w.heap.size r.i) (hn : r.i.l.length = n) (hr : RecOk z d r.d) :
    Calls Try.prog 33 #[recV r n] w fun e w' => Enc1 w.heap.size (encR r.d) e w' ∧ Below w.heap.size w w' := by
  have hlen := encR_length r.d
  rcases id hr with ⟨h0, h1, h2, h3, h4, h5, h6, h7⟩ | ⟨h1, h2, h3, h4⟩ | ⟨h1, h2, h3, h4⟩
  · have hV : recV r n = .iface 100 (.agg #[]) := by unfold recV; rw [if_pos (show r.kd = 0 from h0)]
    have hd : encR r.d = headB noRec := by
      have e1 : r.d = noRec := Rcd.eq_of h0 h1 h2 h3 h4 h5 h6 h7
      rw [e1]
      unfold encR
      rw [if_neg (by decide), List.append_nil]
    rw [hV]
    refine (enc0_c w).mono ?_
    rintro e w' ⟨⟨X, x, rfl, ho⟩, hb⟩
    rw [← hd] at ho
    rw [if_neg (by rw [h0]; decide)] at hlen
    exact ⟨⟨X, x, by rw [hlen], by rw [hlen]; exact ho⟩, hb⟩
  · have hV : recV r n = .iface 106 (.agg #[.int .i64 r.sq, .int .i64 r.ep, .int .i64 r.ps, .int .i64 r.nm]) := by unfold recV; rw [if_neg (by rw [show r.kd = 2 from h2]; decide), if_neg (by rw [show r.kd = 2 from h2]; decide)]
    have hd : encR r.d = headB r.d := by
      unfold encR
      rw [if_neg (by rw [h2]; decide), List.append_nil]
    rw [hV]
    refine (enc2_c r w h1 h3 h2).mono ?_
    rintro e w' ⟨⟨X, x, rfl, ho⟩, hb⟩
    rw [← hd] at ho
    rw [if_neg (by rw [h2]; decide)] at hlen
    exact ⟨⟨X, x, by rw [hlen], by rw [hlen]; exact ho⟩, hb⟩
  · have hV : recV r n = .iface 109 (.agg #[.int .i64 r.sq, .int .i64 r.ep, .int .i64 r.ps, .int .i64 r.nm, .int .i64 r.i.z, .int .i64 r.i.wh, .slice r.i.A n r.i.c]) := by unfold recV; rw [if_neg (by rw [show r.kd = 1 from h2]; decide), if_pos (show r.kd = 1 from h2)]
    have hd : encR r.d = headB r.d ++ imgB r.d := by
      unfold encR
      rw [if_pos h2]
    have hil := imOk_len h4 ho.2.1
    have hwh := imOk_wh h4
    have hz := h4.1
    have o1 := ho.1
    have o2 := ho.2.1
    simp only [RcR.d] at hil hwh hz
    rw [hV]
    refine (enc1_c r n w h1 h3 (by omega) (by omega) h2 hx hn (by omega)).mono ?_
    rintro e w' ⟨⟨X, x, rfl, ho⟩, hb⟩
    rw [← hd] at ho
    rw [if_pos h2, show r.d.l.length = n from hn] at hlen
    have e9 : 11 + (3 + n) = (encR r.d).length := by omega
    rw [e9] at ho ⊢
    exact ⟨⟨X, x, rfl, ho⟩, hb⟩
set_option maxRecDepth 100000 in
set_option maxHeartbeats 8000000 in
theorem check_c (c : Bool) (z d s l a : Int) (r : RcR) (n : Nat) (w : World) (hx : BIn w w.heap.size r.i) (hn : r.i.l.length = n) (hn1 : n ≤ 1048576) (hc : c = true ↔ Ok z d s l a ∧ RecOk z d r.d) :
    Calls Try.prog 17 #[.agg #[.int .i64 z, .int .i64 d, .int .i64 s, .int .i64 l, .int .i64 a], .agg #[.int .i64 r.kd, .int .i64 r.sq, .int .i64 r.ep, .int .i64 r.ps, .int .i64 r.nm, .int .i64 r.i.z, .int .i64 r.i.wh, .slice r.i.A n r.i.c]] w fun e w' => e = .returned (.int .i64 (if c = true then 0 else 1)) ∧ Below w.heap.size w w' := by
  have s1 : (w.alloc (.cells #[.int .i64 z, .int .i64 d, .int .i64 s, .int .i64 l, .int .i64 a] 23)).heap.size = w.heap.size + 1 := by simp
  have hx2 := bl (w.alloc (.cells #[.int .i64 z, .int .i64 d, .int .i64 s, .int .i64 l, .int .i64 a] 23)) (.cells #[.int .i64 r.kd, .int .i64 r.sq, .int .i64 r.ep, .int .i64 r.ps, .int .i64 r.nm, .int .i64 r.i.z, .int .i64 r.i.wh, .slice r.i.A n r.i.c] 28)
  have GG := (g5_new w z d s l a).keep hx2 (by omega)
  have RR := c8_new (w.alloc (.cells #[.int .i64 z, .int .i64 d, .int .i64 s, .int .i64 l, .int .i64 a] 23)) (.int .i64 r.kd) (.int .i64 r.sq) (.int .i64 r.ep) (.int .i64 r.ps) (.int .i64 r.nm) (.int .i64 r.i.z) (.int .i64 r.i.wh) (.slice r.i.A n r.i.c) 28
  rw [s1] at RR
  have hw := kal (bl w (.cells #[.int .i64 z, .int .i64 d, .int .i64 s, .int .i64 l, .int .i64 a] 23)) (.cells #[.int .i64 r.kd, .int .i64 r.sq, .int .i64 r.ep, .int .i64 r.ps, .int .i64 r.nm, .int .i64 r.i.z, .int .i64 r.i.wh, .slice r.i.A n r.i.c] 28)
  have HT := Lib.hid (typ_c c z d s l a r n ((w.alloc (.cells #[.int .i64 z, .int .i64 d, .int .i64 s, .int .i64 l, .int .i64 a] 23)).alloc (.cells #[.int .i64 r.kd, .int .i64 r.sq, .int .i64 r.ep, .int .i64 r.ps, .int .i64 r.nm, .int .i64 r.i.z, .int .i64 r.i.wh, .slice r.i.A n r.i.c] 28)) (hx.next hw) hn hn1 hc)
  clear s1 hx2 hx hc hn
  unfold Typed at HT
  generalize recV r n = V at *
  go_enter Try.func17, Try.ntmps17
  go_upto_region 1 with fail
  generalize (w.alloc (.cells #[.int .i64 z, .int .i64 d, .int .i64 s, .int .i64 l, .int .i64 a] 23)).alloc (.cells #[.int .i64 r.kd, .int .i64 r.sq, .int .i64 r.ep, .int .i64 r.ps, .int .i64 r.nm, .int .i64 r.i.z, .int .i64 r.i.wh, .slice r.i.A n r.i.c] 28) = w0 at *
  obtain ⟨g0, g1, g2, g3, g4⟩ := id GG
  obtain ⟨r0, r1, r2, r3, r4, r5, r6, r7⟩ := id RR
  cases c
  · go_wp2_with (go_at_call 32; (with_reducible refine (HT.out).mono ?_); rintro e w2 ⟨h2, hb2⟩; (obtain rfl := (h2.resolve_left fun h => absurd h.1 Bool.false_ne_true).2); clear h2)
    go_ret
    exact ⟨rfl, bt hw hb2⟩
  · go_wp2_with (go_at_call 32; (with_reducible refine (HT.out).mono ?_); rintro e w2 ⟨h2, hb2⟩; (obtain rfl := (h2.resolve_right fun h => absurd h.1.symm Bool.false_ne_true).2); clear h2)
    go_ret
    exact ⟨rfl, bt hw hb2⟩
set_option maxRecDepth 100000 in
set_option maxHeartbeats 8000000 in
theorem bytes_no_c (z d s l a : Int) (r : RcR) (n : Nat) (w : World) (hno : ¬ (Ok z d s l a ∧ RecOk z d r.d)) (hx : BIn w w.heap.size r.i) (hn : r.i.l.length = n) (hn1 : n ≤ 1048576) :
    Calls Try.prog 11 #[.agg #[.int .i64 z, .int .i64 d, .int .i64 s, .int .i64 l, .int .i64 a], .agg #[.int .i64 r.kd, .int .i64 r.sq, .int .i64 r.ep, .int .i64 r.ps, .int .i64 r.nm, .int .i64 r.i.z, .int .i64 r.i.wh, .slice r.i.A n r.i.c]] w fun e w' => tbl.NonE 1 e ∧ Below w.heap.size w w' := by
  have s1 : (w.alloc (.cells #[.int .i64 z, .int .i64 d, .int .i64 s, .int .i64 l, .int .i64 a] 23)).heap.size = w.heap.size + 1 := by simp
  have hx2 := bl (w.alloc (.cells #[.int .i64 z, .int .i64 d, .int .i64 s, .int .i64 l, .int .i64 a] 23)) (.cells #[.int .i64 r.kd, .int .i64 r.sq, .int .i64 r.ep, .int .i64 r.ps, .int .i64 r.nm, .int .i64 r.i.z, .int .i64 r.i.wh, .slice r.i.A n r.i.c] 28)
  have GG := (g5_new w z d s l a).keep hx2 (by omega)
  have RR := c8_new (w.alloc (.cells #[.int .i64 z, .int .i64 d, .int .i64 s, .int .i64 l, .int .i64 a] 23)) (.int .i64 r.kd) (.int .i64 r.sq) (.int .i64 r.ep) (.int .i64 r.ps) (.int .i64 r.nm) (.int .i64 r.i.z) (.int .i64 r.i.wh) (.slice r.i.A n r.i.c) 28
  rw [s1] at RR
  have hw := kal (bl w (.cells #[.int .i64 z, .int .i64 d, .int .i64 s, .int .i64 l, .int .i64 a] 23)) (.cells #[.int .i64 r.kd, .int .i64 r.sq, .int .i64 r.ep, .int .i64 r.ps, .int .i64 r.nm, .int .i64 r.i.z, .int .i64 r.i.wh, .slice r.i.A n r.i.c] 28)
  have HT := Lib.hid (typ_c false z d s l a r n ((w.alloc (.cells #[.int .i64 z, .int .i64 d, .int .i64 s, .int .i64 l, .int .i64 a] 23)).alloc (.cells #[.int .i64 r.kd, .int .i64 r.sq, .int .i64 r.ep, .int .i64 r.ps, .int .i64 r.nm, .int .i64 r.i.z, .int .i64 r.i.wh, .slice r.i.A n r.i.c] 28)) (hx.next hw) hn hn1 (iff_of_false Bool.false_ne_true hno))
  clear s1 hx2 hx hn hno
  unfold Typed at HT
  generalize recV r n = V at *
  go_enter Try.func11, Try.ntmps11
  go_upto_region 1 with fail
  generalize (w.alloc (.cells #[.int .i64 z, .int .i64 d, .int .i64 s, .int .i64 l, .int .i64 a] 23)).alloc (.cells #[.int .i64 r.kd, .int .i64 r.sq, .int .i64 r.ep, .int .i64 r.ps, .int .i64 r.nm, .int .i64 r.i.z, .int .i64 r.i.wh, .slice r.i.A n r.i.c] 28) = w0 at *
  obtain ⟨g0, g1, g2, g3, g4⟩ := id GG
  obtain ⟨r0, r1, r2, r3, r4, r5, r6, r7⟩ := id RR
  go_wp2_with (go_at_call 32; (with_reducible refine (HT.out).mono ?_); rintro e w2 ⟨h2, hb2⟩; (obtain rfl := (h2.resolve_left fun h => absurd h.1 Bool.false_ne_true).2); clear h2)
  go_ret2
  exact ⟨⟨none, 0, rfl⟩, bt hw hb2⟩
set_option maxRecDepth 100000 in
set_option maxHeartbeats 8000000 in
theorem bytes_c (z d s l a : Int) (r : RcR) (n : Nat) (w : World) (ho : Ok z d s l a) (hx : BIn w w.heap.size r.i) (hn : r.i.l.length = n) (hr : RecOk z d r.d) :
    Calls Try.prog 11 #[.agg #[.int .i64 z, .int .i64 d, .int .i64 s, .int .i64 l, .int .i64 a], .agg #[.int .i64 r.kd, .int .i64 r.sq, .int .i64 r.ep, .int .i64 r.ps, .int .i64 r.nm, .int .i64 r.i.z, .int .i64 r.i.wh, .slice r.i.A n r.i.c]] w fun e w' => BytR w.heap.size (encR r.d) e w' ∧ Below w.heap.size w w' := by
  have s1 : (w.alloc (.cells #[.int .i64 z, .int .i64 d, .int .i64 s, .int .i64 l, .int .i64 a] 23)).heap.size = w.heap.size + 1 := by simp
  have hx2 := bl (w.alloc (.cells #[.int .i64 z, .int .i64 d, .int .i64 s, .int .i64 l, .int .i64 a] 23)) (.cells #[.int .i64 r.kd, .int .i64 r.sq, .int .i64 r.ep, .int .i64 r.ps, .int .i64 r.nm, .int .i64 r.i.z, .int .i64 r.i.wh, .slice r.i.A n r.i.c] 28)
  have GG := (g5_new w z d s l a).keep hx2 (by omega)
  have RR := c8_new (w.alloc (.cells #[.int .i64 z, .int .i64 d, .int .i64 s, .int .i64 l, .int .i64 a] 23)) (.int .i64 r.kd) (.int .i64 r.sq) (.int .i64 r.ep) (.int .i64 r.ps) (.int .i64 r.nm) (.int .i64 r.i.z) (.int .i64 r.i.wh) (.slice r.i.A n r.i.c) 28
  rw [s1] at RR
  have hw := kal (bl w (.cells #[.int .i64 z, .int .i64 d, .int .i64 s, .int .i64 l, .int .i64 a] 23)) (.cells #[.int .i64 r.kd, .int .i64 r.sq, .int .i64 r.ep, .int .i64 r.ps, .int .i64 r.nm, .int .i64 r.i.z, .int .i64 r.i.wh, .slice r.i.A n r.i.c] 28)
  have hl : n ≤ 45 := by
    have := (recOk_len hr ho.2.1).1
    simp only [RcR.d] at this
    omega
  have HT := Lib.hid (typ_c true z d s l a r n ((w.alloc (.cells #[.int .i64 z, .int .i64 d, .int .i64 s, .int .i64 l, .int .i64 a] 23)).alloc (.cells #[.int .i64 r.kd, .int .i64 r.sq, .int .i64 r.ep, .int .i64 r.ps, .int .i64 r.nm, .int .i64 r.i.z, .int .i64 r.i.wh, .slice r.i.A n r.i.c] 28)) (hx.next hw) hn (by omega) (iff_of_true rfl ⟨ho, hr⟩))
  have HE := Lib.hid (show ∀ W, Below w.heap.size w W → Calls Try.prog 33 #[recV r n] W fun e w' => Enc1 W.heap.size (encR r.d) e w' ∧ Below W.heap.size W w' from fun W hW => encode_c z d s l a r n W ho (hx.next hW) hn hr)
  clear s1 hx2 hx hn hl ho hr
  unfold Typed at HT
  generalize recV r n = V at *
  generalize encR r.d = E at *
  go_enter Try.func11, Try.ntmps11
  go_upto_region 1 with fail
  generalize (w.alloc (.cells #[.int .i64 z, .int .i64 d, .int .i64 s, .int .i64 l, .int .i64 a] 23)).alloc (.cells #[.int .i64 r.kd, .int .i64 r.sq, .int .i64 r.ep, .int .i64 r.ps, .int .i64 r.nm, .int .i64 r.i.z, .int .i64 r.i.wh, .slice r.i.A n r.i.c] 28) = w0 at *
  obtain ⟨g0, g1, g2, g3, g4⟩ := id GG
  obtain ⟨r0, r1, r2, r3, r4, r5, r6, r7⟩ := id RR
  unfold Enc1 at HE
  go_wp2_with (first
    | (go_at_call 32; (with_reducible refine (HT.out).mono ?_); rintro e w2 ⟨h2, hb2⟩; (obtain rfl := (h2.resolve_right fun h => absurd h.1.symm Bool.false_ne_true).2); clear h2)
    | (go_at_call 33; (with_reducible refine (HE.out _ (bt hw hb2)).mono ?_); rintro e w3 ⟨⟨X, x, rfl, hown⟩, hb3⟩))
  go_ret2
  exact ⟨⟨X, x, rfl, hown.less (bt hw hb2).size⟩, bt (bt hw hb2) hb3⟩
end Go.Proofs.Ytplhdnhigboeaaa.lrc
