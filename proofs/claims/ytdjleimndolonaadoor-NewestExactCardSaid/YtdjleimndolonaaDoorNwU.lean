/-
  What anchor a reading says, by the document. Conditions: a right geometry.
-/
import Derived.Test.YtdjleimndolonaaDoorNwS
namespace Go.Proofs.YtdjleimndolonaaDoor.nwt
open Go.RowKit Go.Lib
open Go.Proofs.YtdjleimndolonaaDoor.gmt (Ok)
open Go.Proofs.YtdjleimndolonaaDoor.anc (bl kal kst ks bm ka Anc noAnc AV noAV noAV_own noAV_d encA RdQ rread_yes rread_not g5_new sev_new ac_new below7 OwnH)
open Go.Proofs.YtdjleimndolonaaDoor.sel (Three three_new opened Opn no enc enc_opened)

set_option maxRecDepth 100000 in
set_option maxHeartbeats 8000000 in
theorem rsays_nosec (z d s l a e addr : Int) (A : Option Addr) (n c : Nat) (w : World) (cS : ∀ W, Below w.heap.size w W → Calls Tryd.prog 36 #[.agg #[.int .i64 e, .slice A n c], .int .i64 addr] W fun e w' => SecNo e ∧ Below W.heap.size W w') :
    Calls Tryd.prog 17 #[.agg #[.int .i64 z, .int .i64 d, .int .i64 s, .int .i64 l, .int .i64 a], .agg #[.int .i64 e, .slice A n c], .int .i64 addr] w fun e w' => RdQ w.heap.size noAnc false e w' ∧ Below w.heap.size w w' := by
  have GG0 := g5_new w z d s l a
  have GX : ((w.alloc (.cells #[.int .i64 z, .int .i64 d, .int .i64 s, .int .i64 l, .int .i64 a] 23)).alloc (.cells #[.int .i64 e, .slice A n c] 28)).cell? ⟨w.heap.size + 1, 0, none⟩ = some (.int .i64 e) ∧ ((w.alloc (.cells #[.int .i64 z, .int .i64 d, .int .i64 s, .int .i64 l, .int .i64 a] 23)).alloc (.cells #[.int .i64 e, .slice A n c] 28)).cell? ⟨w.heap.size + 1, 1, none⟩ = some (.slice A n c) := by
    have h9 := heap_alloc_new (w.alloc (.cells #[.int .i64 z, .int .i64 d, .int .i64 s, .int .i64 l, .int .i64 a] 23)) (.cells #[.int .i64 e, .slice A n c] 28)
    rw [show (w.alloc (.cells #[.int .i64 z, .int .i64 d, .int .i64 s, .int .i64 l, .int .i64 a] 23)).heap.size = w.heap.size + 1 by simp] at h9
    constructor <;> (rw [cell_of_row _ _ _ _ _ _ h9]; rfl)
  have s1 : (w.alloc (.cells #[.int .i64 z, .int .i64 d, .int .i64 s, .int .i64 l, .int .i64 a] 23)).heap.size = w.heap.size + 1 := by simp
  have s2 : ((w.alloc (.cells #[.int .i64 z, .int .i64 d, .int .i64 s, .int .i64 l, .int .i64 a] 23)).alloc (.cells #[.int .i64 e, .slice A n c] 28)).heap.size = w.heap.size + 2 := by simp
  have hbz := bl ((w.alloc (.cells #[.int .i64 z, .int .i64 d, .int .i64 s, .int .i64 l, .int .i64 a] 23)).alloc (.cells #[.int .i64 e, .slice A n c] 28)) (.cells #[.int .i64 0, .int .i64 0, .int .i64 0, .int .i64 0, .int .i64 0, .string ⟨#[]⟩, .slice none 0 0] 31)
  have GG := (GG0.keep (bl (w.alloc (.cells #[.int .i64 z, .int .i64 d, .int .i64 s, .int .i64 l, .int .i64 a] 23)) (.cells #[.int .i64 e, .slice A n c] 28)) (by omega)).keep hbz (by omega)
  have x0 := kst hbz (by omega) GX.1
  have x1 := kst hbz (by omega) GX.2
  have P := sev_new ((w.alloc (.cells #[.int .i64 z, .int .i64 d, .int .i64 s, .int .i64 l, .int .i64 a] 23)).alloc (.cells #[.int .i64 e, .slice A n c] 28)) (.int .i64 0) (.int .i64 0) (.int .i64 0) (.int .i64 0) (.int .i64 0) (.string ⟨#[]⟩) (.slice none 0 0) 31
  rw [s2] at P
  have hb0 := kal (kal (bl w (.cells #[.int .i64 z, .int .i64 d, .int .i64 s, .int .i64 l, .int .i64 a] 23)) (.cells #[.int .i64 e, .slice A n c] 28)) (.cells #[.int .i64 0, .int .i64 0, .int .i64 0, .int .i64 0, .int .i64 0, .string ⟨#[]⟩, .slice none 0 0] 31)
  have l2 : w.heap.size + 2 < (((w.alloc (.cells #[.int .i64 z, .int .i64 d, .int .i64 s, .int .i64 l, .int .i64 a] 23)).alloc (.cells #[.int .i64 e, .slice A n c] 28)).alloc (.cells #[.int .i64 0, .int .i64 0, .int .i64 0, .int .i64 0, .int .i64 0, .string ⟨#[]⟩, .slice none 0 0] 31)).heap.size := by simp
  clear GX hbz GG0 s1 s2
  go_enter Tryd.func17, Tryd.ntmps17
  go_upto_region 1 with fail
  generalize ((w.alloc (.cells #[.int .i64 z, .int .i64 d, .int .i64 s, .int .i64 l, .int .i64 a] 23)).alloc (.cells #[.int .i64 e, .slice A n c] 28)).alloc (.cells #[.int .i64 0, .int .i64 0, .int .i64 0, .int .i64 0, .int .i64 0, .string ⟨#[]⟩, .slice none 0 0] 31) = w0 at *
  obtain ⟨z0, z1, z2, z3, z4, z5, z6, f0, f1, f2, f3, f4, f5, f6⟩ := id P
  have HS := Lib.hid cS
  clear cS
  go_wp2_with (go_at_call 36; (with_reducible refine (HS.out _ hb0).mono ?_); rintro e w1 ⟨hse, hb1⟩; unfold SecNo at hse; subst hse; replace P := P.keep hb1 l2; have hxS := bl w1 (.cells #[.int .i64 0, .int .i64 0, .slice none 0 0] 65); replace P := P.keep hxS (Nat.lt_of_lt_of_le l2 hb1.size); clear z0 z1 z2 z3 z4 z5 z6 f0 f1 f2 f3 f4 f5 f6; obtain ⟨z0, z1, z2, z3, z4, z5, z6, f0, f1, f2, f3, f4, f5, f6⟩ := id P; replace hb0 := bt (bt hb0 hb1) hxS)
  have k7 := (((((((P.set0 (.int .i64 0)).set1 (.int .i64 0)).set2 (.int .i64 0)).set3 (.int .i64 0)).set4 (.int .i64 0)).set5 (.string ⟨#[]⟩)).set6 (.slice none 0 0))
  exact bodyPost_ret (v := .tuple #[.agg #[.int .i64 0, .int .i64 0, .int .i64 0, .int .i64 0, .int .i64 0, .string ⟨#[]⟩, .slice none 0 0], .bool false]) (by simp [results, Tryd.results17, go_sem, k7.c0, k7.c1, k7.c2, k7.c3, k7.c4, k7.c5, k7.c6]) rfl ⟨⟨noAV, rfl, rfl, noAV_own _ _⟩, below7 hb0 (by omega)⟩

set_option maxRecDepth 100000 in
set_option maxHeartbeats 8000000 in
theorem rsays_sec (z d s l a e addr : Int) (A : Option Addr) (n c : Nat) (w : World) (r : Opn) (X : Anc) (g : Bool) (cS : ∀ W, Below w.heap.size w W → Calls Tryd.prog 36 #[.agg #[.int .i64 e, .slice A n c], .int .i64 addr] W fun e w' => SecQ W.heap.size r e w' ∧ Below W.heap.size W w')
    (cR : ∀ (W : World) (Y : Option Addr) (y : Nat), Sl W W.heap.size Y r.load → r.load.length ≤ y → y ≤ maxLen → Calls Tryd.prog 37 #[.agg #[.int .i64 z, .int .i64 d, .int .i64 s, .int .i64 l, .int .i64 a], .slice Y r.load.length y] W fun e w' => RdQ W.heap.size X g e w' ∧ Below W.heap.size W w') (yes : Bool) (hy : yes = true ↔ g = true ∧ X.gen = (r.stamp : Int)) :
    Calls Tryd.prog 17 #[.agg #[.int .i64 z, .int .i64 d, .int .i64 s, .int .i64 l, .int .i64 a], .agg #[.int .i64 e, .slice A n c], .int .i64 addr] w fun e w' => RdQ w.heap.size (if yes = true then X else noAnc) yes e w' ∧ Below w.heap.size w w' := by
  have GG0 := g5_new w z d s l a
  have GX : ((w.alloc (.cells #[.int .i64 z, .int .i64 d, .int .i64 s, .int .i64 l, .int .i64 a] 23)).alloc (.cells #[.int .i64 e, .slice A n c] 28)).cell? ⟨w.heap.size + 1, 0, none⟩ = some (.int .i64 e) ∧ ((w.alloc (.cells #[.int .i64 z, .int .i64 d, .int .i64 s, .int .i64 l, .int .i64 a] 23)).alloc (.cells #[.int .i64 e, .slice A n c] 28)).cell? ⟨w.heap.size + 1, 1, none⟩ = some (.slice A n c) := by
    have h9 := heap_alloc_new (w.alloc (.cells #[.int .i64 z, .int .i64 d, .int .i64 s, .int .i64 l, .int .i64 a] 23)) (.cells #[.int .i64 e, .slice A n c] 28)
    rw [show (w.alloc (.cells #[.int .i64 z, .int .i64 d, .int .i64 s, .int .i64 l, .int .i64 a] 23)).heap.size = w.heap.size + 1 by simp] at h9
    constructor <;> (rw [cell_of_row _ _ _ _ _ _ h9]; rfl)
  have s1 : (w.alloc (.cells #[.int .i64 z, .int .i64 d, .int .i64 s, .int .i64 l, .int .i64 a] 23)).heap.size = w.heap.size + 1 := by simp
  have s2 : ((w.alloc (.cells #[.int .i64 z, .int .i64 d, .int .i64 s, .int .i64 l, .int .i64 a] 23)).alloc (.cells #[.int .i64 e, .slice A n c] 28)).heap.size = w.heap.size + 2 := by simp
  have hbz := bl ((w.alloc (.cells #[.int .i64 z, .int .i64 d, .int .i64 s, .int .i64 l, .int .i64 a] 23)).alloc (.cells #[.int .i64 e, .slice A n c] 28)) (.cells #[.int .i64 0, .int .i64 0, .int .i64 0, .int .i64 0, .int .i64 0, .string ⟨#[]⟩, .slice none 0 0] 31)
  have GG := (GG0.keep (bl (w.alloc (.cells #[.int .i64 z, .int .i64 d, .int .i64 s, .int .i64 l, .int .i64 a] 23)) (.cells #[.int .i64 e, .slice A n c] 28)) (by omega)).keep hbz (by omega)
  have x0 := kst hbz (by omega) GX.1
  have x1 := kst hbz (by omega) GX.2
  have P := sev_new ((w.alloc (.cells #[.int .i64 z, .int .i64 d, .int .i64 s, .int .i64 l, .int .i64 a] 23)).alloc (.cells #[.int .i64 e, .slice A n c] 28)) (.int .i64 0) (.int .i64 0) (.int .i64 0) (.int .i64 0) (.int .i64 0) (.string ⟨#[]⟩) (.slice none 0 0) 31
  rw [s2] at P
  have hb0 := kal (kal (bl w (.cells #[.int .i64 z, .int .i64 d, .int .i64 s, .int .i64 l, .int .i64 a] 23)) (.cells #[.int .i64 e, .slice A n c] 28)) (.cells #[.int .i64 0, .int .i64 0, .int .i64 0, .int .i64 0, .int .i64 0, .string ⟨#[]⟩, .slice none 0 0] 31)
  have l2 : w.heap.size + 2 < (((w.alloc (.cells #[.int .i64 z, .int .i64 d, .int .i64 s, .int .i64 l, .int .i64 a] 23)).alloc (.cells #[.int .i64 e, .slice A n c] 28)).alloc (.cells #[.int .i64 0, .int .i64 0, .int .i64 0, .int .i64 0, .int .i64 0, .string ⟨#[]⟩, .slice none 0 0] 31)).heap.size := by simp
  clear GX hbz GG0 s1 s2
  go_enter Tryd.func17, Tryd.ntmps17
  go_upto_region 1 with fail
  generalize ((w.alloc (.cells #[.int .i64 z, .int .i64 d, .int .i64 s, .int .i64 l, .int .i64 a] 23)).alloc (.cells #[.int .i64 e, .slice A n c] 28)).alloc (.cells #[.int .i64 0, .int .i64 0, .int .i64 0, .int .i64 0, .int .i64 0, .string ⟨#[]⟩, .slice none 0 0] 31) = w0 at *
  have HS := Lib.hid cS
  have HR := Lib.hid cR
  have HY := Lib.hid hy
  clear cS cR hy
  go_upto_region 2 with (go_at_call 36; (with_reducible refine (HS.out _ hb0).mono ?_); rintro e w1 ⟨⟨Y, y, rfl, hs⟩, hb1⟩)
  have hxS := bl w1 (.cells #[.int .i64 r.addr, .int .i64 r.stamp, .slice Y r.load.length y] 65)
  have T := three_new w1 (.int .i64 r.addr) (.int .i64 r.stamp) (.slice Y r.load.length y) 65
  obtain ⟨Y', y', hv, h1, h2, hsl, -⟩ := hs.form
  simp only [Value.slice.injEq] at hv
  obtain ⟨rfl, -, rfl⟩ := hv
  have hsl2 := hsl.next hxS
  replace GG := (GG.keep hb1 (by omega)).keep hxS (by have := hb1.size; omega)
  replace P := (P.keep hb1 l2).keep hxS (Nat.lt_of_lt_of_le l2 hb1.size)
  replace hb0 := bt (bt hb0 hb1) hxS
  obtain ⟨gs, hgs⟩ : ∃ q, q = w1.heap.size := ⟨_, rfl⟩
  have lT : gs < (w1.alloc (.cells #[.int .i64 r.addr, .int .i64 r.stamp, .slice Y r.load.length y] 65)).heap.size := by rw [hgs]; simp
  replace l2 : w.heap.size + 2 < gs := by have := hb1.size; omega
  rw [← hgs] at T ⊢
  clear hgs hxS hb1 hs hsl x0 x1
  generalize w1.alloc (.cells #[.int .i64 r.addr, .int .i64 r.stamp, .slice Y r.load.length y] 65) = w2 at *
  have HR2 := Lib.hid (HR.out w2 Y y hsl2 h1 h2)
  clear hsl2 h1 h2
  obtain ⟨g0, g1, g2, g3, g4⟩ := id GG
  obtain ⟨t0, t1, t2, -, -, -⟩ := id T
  go_upto_region 5 with (go_at_call 37; (with_reducible refine HR2.out.mono ?_); rintro e w3 ⟨⟨q, heq, hqd, hqo⟩, hb3⟩; rw [AV.v] at heq; subst heq)
  have hxA := bl w3 (.cells #[.int .i64 q.gen, .int .i64 q.ep, .int .i64 q.pos, .int .i64 q.seq, .int .i64 q.last, .string q.lab, .slice q.HA q.hs.length q.hc] 31)
  have FQ := ac_new w3 q
  replace T := (T.keep hb3 lT).keep hxA (Nat.lt_of_lt_of_le lT hb3.size)
  replace P := (P.keep hb3 (by omega)).keep hxA (by have := hb3.size; omega)
  replace hb0 := bt (bt hb0 hb3) hxA
  have HQO : Hid (OwnH _ _ _ _) := Lib.hid (OwnH.below hqo hxA)
  have HQD := Lib.hid hqd
  have lb3 := hb3.size
  clear hqo hxA hb3 g0 g1 g2 g3 g4 t0 t1 t2 GG HR HR2
  generalize hw4 : w3.alloc (.cells #[.int .i64 q.gen, .int .i64 q.ep, .int .i64 q.pos, .int .i64 q.seq, .int .i64 q.last, .string q.lab, .slice q.HA q.hs.length q.hc] 31) = w4 at *
  clear hw4
  obtain ⟨t0, t1, t2, -, -, -⟩ := id T
  obtain ⟨q0, q1, q2, q3, q4, q5, q6⟩ := id FQ
  obtain ⟨z0, z1, z2, z3, z4, z5, z6, f0, f1, f2, f3, f4, f5, f6⟩ := id P
  have hqg : q.gen = X.gen := congrArg Anc.gen hqd
  clear hqd
  cases yes
  case false =>
    cases g
    case false =>
      clear hqg HY
      go_wp2_with fail
      have k7 := (((((((P.set0 (.int .i64 0)).set1 (.int .i64 0)).set2 (.int .i64 0)).set3 (.int .i64 0)).set4 (.int .i64 0)).set5 (.string ⟨#[]⟩)).set6 (.slice none 0 0))
      exact bodyPost_ret (v := .tuple #[.agg #[.int .i64 0, .int .i64 0, .int .i64 0, .int .i64 0, .int .i64 0, .string ⟨#[]⟩, .slice none 0 0], .bool false]) (by simp [results, Tryd.results17, go_sem, k7.c0, k7.c1, k7.c2, k7.c3, k7.c4, k7.c5, k7.c6]) rfl ⟨⟨noAV, rfl, rfl, noAV_own _ _⟩, below7 hb0 (by omega)⟩
    case true =>
      have q8 : (q.gen != (r.stamp : Int)) = true := bne_iff_ne.2 fun k => by
        have := HY.out.2 ⟨rfl, by rw [← hqg]; exact k⟩
        cases this
      clear hqg HY
      go_wp2_with fail
      have k7 := (((((((P.set0 (.int .i64 0)).set1 (.int .i64 0)).set2 (.int .i64 0)).set3 (.int .i64 0)).set4 (.int .i64 0)).set5 (.string ⟨#[]⟩)).set6 (.slice none 0 0))
      exact bodyPost_ret (v := .tuple #[.agg #[.int .i64 0, .int .i64 0, .int .i64 0, .int .i64 0, .int .i64 0, .string ⟨#[]⟩, .slice none 0 0], .bool false]) (by simp [results, Tryd.results17, go_sem, k7.c0, k7.c1, k7.c2, k7.c3, k7.c4, k7.c5, k7.c6]) rfl ⟨⟨noAV, rfl, rfl, noAV_own _ _⟩, below7 hb0 (by omega)⟩
  case true =>
    obtain ⟨rfl, hst⟩ := HY.out.1 rfl
    have q8 : (q.gen != (r.stamp : Int)) = false := by rw [hqg, hst]; exact bne_self_eq_false _
    clear hqg HY hst
    go_wp2_with fail
    have k7 := (((((((P.set0 (.int .i64 q.gen)).set1 (.int .i64 q.ep)).set2 (.int .i64 q.pos)).set3 (.int .i64 q.seq)).set4 (.int .i64 q.last)).set5 (.string q.lab)).set6 (.slice q.HA q.hs.length q.hc))
    have hgz : w.heap.size + 2 < w2.heap.size := by omega
    have h7 := (OwnH.cell_set (o := 6) (OwnH.cell_set (o := 5) (OwnH.cell_set (o := 4) (OwnH.cell_set (o := 3) (OwnH.cell_set (o := 2) (OwnH.cell_set (o := 1) (OwnH.cell_set (o := 0) HQO.out hgz (.int .i64 q.gen)) hgz (.int .i64 q.ep)) hgz (.int .i64 q.pos)) hgz (.int .i64 q.seq)) hgz (.int .i64 q.last)) hgz (.string q.lab)) hgz (.slice q.HA q.hs.length q.hc))
    exact bodyPost_ret (v := .tuple #[.agg #[.int .i64 q.gen, .int .i64 q.ep, .int .i64 q.pos, .int .i64 q.seq, .int .i64 q.last, .string q.lab, .slice q.HA q.hs.length q.hc], .bool true]) (by simp [results, Tryd.results17, go_sem, k7.c0, k7.c1, k7.c2, k7.c3, k7.c4, k7.c5, k7.c6]) rfl ⟨⟨q, rfl, HQD.out, OwnH.less h7 (by omega)⟩, below7 hb0 (by omega)⟩
/-- What a reading says, by the document. -/
theorem rsays_any (z d s l a e addr : Int) (A : Option Addr) (n c : Nat) (b : List UInt8) (w : World) (ho : Ok z d s l a) (hn : b.length = n) (hc : n ≤ c) (hA : Sl w w.heap.size A b) :
    Calls Tryd.prog 17 #[.agg #[.int .i64 z, .int .i64 d, .int .i64 s, .int .i64 l, .int .i64 a], .agg #[.int .i64 e, .slice A n c], .int .i64 addr] w fun e' w' => RdQ w.heap.size ((sayO z d s l e b addr).getD noAnc) (sayO z d s l e b addr).isSome e' w' ∧ Below w.heap.size w w' := by
  by_cases he : e = 0
  case neg =>
    rw [sayO_none fun X h => he h.1]
    exact rsays_nosec z d s l a e addr A n c w fun W _ => rsector_err e addr A n c W he
  by_cases hs : (opened b).err = 0 ∧ ((opened b).addr : Int) = addr
  case neg =>
    have h0 : sayO z d s l e b addr = none := sayO_none fun X h => by
      rw [he] at h
      have := (says_opened ho).1 h
      exact hs ⟨this.1, this.2.1⟩
    rw [h0]
    exact rsays_nosec z d s l a e addr A n c w fun W hW => rsector_no e addr A n c b W hn hc (hA.next hW) hs he
  have h96 := (enc_opened hs.1).2.2.2
  by_cases hx : ∃ X, anc.Good z d s l X ∧ (opened b).load = encA X
  · obtain ⟨X, hg, hl⟩ := hx
    have h9 := rsays_sec z d s l a e addr A n c w (opened b) X true (fun W hW => rsector_yes e addr A n c b W hn hc (hA.next hW) hs.1 hs.2 he)
      (fun W Y y h1 h2 h3 => rread_yes z d s l a Y y _ _ X W ho rfl h1 h2 h3 (by omega) hg hl) (decide (X.gen = ((opened b).stamp : Int))) (by simp)
    by_cases hst : X.gen = ((opened b).stamp : Int)
    · have h0 : sayO z d s l e b addr = some X := sayO_some ho (by rw [he]; exact (says_opened ho).2 ⟨hs.1, hs.2, hl, hg, hst⟩)
      rw [h0]
      rw [decide_eq_true hst] at h9
      exact h9
    · have h0 : sayO z d s l e b addr = none := sayO_none fun Y h => by
        rw [he] at h
        obtain ⟨-, -, h1, h2, h3⟩ := (says_opened ho).1 h
        have : Y = X := (anc.good_enc ho h2 hg).1 (h1.symm.trans hl)
        rw [this] at h3
        exact hst h3
      rw [h0]
      rw [decide_eq_false hst] at h9
      exact h9
  · have h0 : sayO z d s l e b addr = none := sayO_none fun Y h => by
      rw [he] at h
      obtain ⟨-, -, h1, h2, -⟩ := (says_opened ho).1 h
      exact hx ⟨Y, h2, h1⟩
    rw [h0]
    exact rsays_sec z d s l a e addr A n c w (opened b) noAnc false (fun W hW => rsector_yes e addr A n c b W hn hc (hA.next hW) hs.1 hs.2 he)
      (fun W Y y h1 h2 h3 => rread_not z d s l a Y y _ _ W ho rfl h1 h2 h3 (by omega) fun X hg hl => hx ⟨X, hg, hl⟩) false (by simp)
end Go.Proofs.YtdjleimndolonaaDoor.nwt
