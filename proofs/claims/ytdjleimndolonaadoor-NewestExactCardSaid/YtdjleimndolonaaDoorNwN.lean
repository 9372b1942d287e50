/-
  Which reading's anchor is the newest, by the document; an anchor's cell. Conditions: a right geometry.
-/
import Derived.Test.YtdjleimndolonaaDoorNwU
import Derived.Deep.CutRange
namespace Go.Proofs.YtdjleimndolonaaDoor.nwt
open Go.RowKit Go.Lib
open Go.Proofs.YtdjleimndolonaaDoor.gmt (Ok)
open Go.Proofs.YtdjleimndolonaaDoor.anc (bl kal kst ks bm ka Anc noAnc AV noAV noAV_own noAV_d encA RdQ g5_new sev_new ac_new below7 OwnH AC Sev ownH_nil rbytes_any)
open Go.Proofs.YtdjleimndolonaaDoor.sel (enc)

/-- What the reading i of many says. -/
noncomputable def sayAt (z d s l : Int) (ds : List (Int × List UInt8)) (i : Nat) : Option Anc :=
  match ds[i]? with
  | some x => sayO z d s l x.1 x.2 i
  | none => none
theorem sayAt_get {z d s l : Int} {ds : List (Int × List UInt8)} {i : Nat} {x : Int × List UInt8} (h : ds[i]? = some x) : sayAt z d s l ds i = sayO z d s l x.1 x.2 i := by
  unfold sayAt
  rw [h]
def ancOf (N : Option (Anc × Nat)) : Anc := (N.map Prod.fst).getD noAnc
def atOf (N : Option (Anc × Nat)) : Int := match N with | none => -1 | some (_, i) => i
theorem ac_sev {W : World} {g : Nat} {y : AV} (h : Sev W g (.int .i64 y.gen) (.int .i64 y.ep) (.int .i64 y.pos) (.int .i64 y.seq) (.int .i64 y.last) (.string y.lab) (.slice y.HA y.hs.length y.hc)) : AC W g y := ⟨h.c0, h.c1, h.c2, h.c3, h.c4, h.c5, h.c6⟩
/-- What the document's Newest answers. -/
def NewQ (base : Nat) (N : Option (Anc × Nat)) (e : Ending) (w' : World) : Prop := ∃ y : AV, e = .returned (.tuple #[y.v, .int .i64 (atOf N)]) ∧ y.d = ancOf N ∧ y.Own w' base

set_option maxRecDepth 100000 in
set_option maxHeartbeats 8000000 in
theorem rnewest_any (z d s l a : Int) (A : Option Addr) (n c : Nat) (rs : List GotR) (w : World) (ho : Ok z d s l a) (hln : rs.length = n) (hA : SlV w w.heap.size A (gvs rs)) (hR : GIn w w.heap.size rs) (hn : n ≤ 1048576) :
    Calls Tryd.prog 18 #[.agg #[.int .i64 z, .int .i64 d, .int .i64 s, .int .i64 l, .int .i64 a], .slice A n c] w fun e w' => NewQ w.heap.size (newN (sayAt z d s l (gds rs)) n) e w' ∧ Below w.heap.size w w' := by
  obtain ⟨f, hf⟩ : ∃ f, f = sayAt z d s l (gds rs) := ⟨_, rfl⟩
  rw [← hf]
  have HF0 := Lib.hid hf
  have HO := Lib.hid ho
  clear hf ho
  have s1 : (w.alloc (.cells #[.int .i64 z, .int .i64 d, .int .i64 s, .int .i64 l, .int .i64 a] 23)).heap.size = w.heap.size + 1 := by simp
  have s2 : ((w.alloc (.cells #[.int .i64 z, .int .i64 d, .int .i64 s, .int .i64 l, .int .i64 a] 23)).alloc (.cells #[.int .i64 0, .int .i64 0, .int .i64 0, .int .i64 0, .int .i64 0, .string ⟨#[]⟩, .slice none 0 0] 31)).heap.size = w.heap.size + 2 := by simp
  have GG := ((g5_new w z d s l a).keep (bl (w.alloc (.cells #[.int .i64 z, .int .i64 d, .int .i64 s, .int .i64 l, .int .i64 a] 23)) (.cells #[.int .i64 0, .int .i64 0, .int .i64 0, .int .i64 0, .int .i64 0, .string ⟨#[]⟩, .slice none 0 0] 31)) (by omega)).keep (bl ((w.alloc (.cells #[.int .i64 z, .int .i64 d, .int .i64 s, .int .i64 l, .int .i64 a] 23)).alloc (.cells #[.int .i64 0, .int .i64 0, .int .i64 0, .int .i64 0, .int .i64 0, .string ⟨#[]⟩, .slice none 0 0] 31)) (.cells #[.int .i64 0, .int .i64 0, .int .i64 0, .int .i64 0, .int .i64 0, .string ⟨#[]⟩, .slice none 0 0] 31)) (by omega)
  have P := (sev_new (w.alloc (.cells #[.int .i64 z, .int .i64 d, .int .i64 s, .int .i64 l, .int .i64 a] 23)) (.int .i64 0) (.int .i64 0) (.int .i64 0) (.int .i64 0) (.int .i64 0) (.string ⟨#[]⟩) (.slice none 0 0) 31).keep (bl ((w.alloc (.cells #[.int .i64 z, .int .i64 d, .int .i64 s, .int .i64 l, .int .i64 a] 23)).alloc (.cells #[.int .i64 0, .int .i64 0, .int .i64 0, .int .i64 0, .int .i64 0, .string ⟨#[]⟩, .slice none 0 0] 31)) (.cells #[.int .i64 0, .int .i64 0, .int .i64 0, .int .i64 0, .int .i64 0, .string ⟨#[]⟩, .slice none 0 0] 31)) (by omega)
  have Q := sev_new ((w.alloc (.cells #[.int .i64 z, .int .i64 d, .int .i64 s, .int .i64 l, .int .i64 a] 23)).alloc (.cells #[.int .i64 0, .int .i64 0, .int .i64 0, .int .i64 0, .int .i64 0, .string ⟨#[]⟩, .slice none 0 0] 31)) (.int .i64 0) (.int .i64 0) (.int .i64 0) (.int .i64 0) (.int .i64 0) (.string ⟨#[]⟩) (.slice none 0 0) 31
  rw [s1] at P
  rw [s2] at Q
  have hb0 := kal (kal (bl w (.cells #[.int .i64 z, .int .i64 d, .int .i64 s, .int .i64 l, .int .i64 a] 23)) (.cells #[.int .i64 0, .int .i64 0, .int .i64 0, .int .i64 0, .int .i64 0, .string ⟨#[]⟩, .slice none 0 0] 31)) (.cells #[.int .i64 0, .int .i64 0, .int .i64 0, .int .i64 0, .int .i64 0, .string ⟨#[]⟩, .slice none 0 0] 31)
  have l3 : (((w.alloc (.cells #[.int .i64 z, .int .i64 d, .int .i64 s, .int .i64 l, .int .i64 a] 23)).alloc (.cells #[.int .i64 0, .int .i64 0, .int .i64 0, .int .i64 0, .int .i64 0, .string ⟨#[]⟩, .slice none 0 0] 31)).alloc (.cells #[.int .i64 0, .int .i64 0, .int .i64 0, .int .i64 0, .int .i64 0, .string ⟨#[]⟩, .slice none 0 0] 31)).heap.size = w.heap.size + 3 := by simp
  clear s1 s2
  go_enter Tryd.func18, Tryd.ntmps18
  go_upto_region 2 with fail
  generalize ((w.alloc (.cells #[.int .i64 z, .int .i64 d, .int .i64 s, .int .i64 l, .int .i64 a] 23)).alloc (.cells #[.int .i64 0, .int .i64 0, .int .i64 0, .int .i64 0, .int .i64 0, .string ⟨#[]⟩, .slice none 0 0] 31)).alloc (.cells #[.int .i64 0, .int .i64 0, .int .i64 0, .int .i64 0, .int .i64 0, .string ⟨#[]⟩, .slice none 0 0] 31) = w0 at *
  have HL3 := Lib.hid l3
  have lz : w.heap.size + 3 ≤ w0.heap.size := by omega
  clear l3
  go_wp2_with fail
  go_loopw [7, 8] (fun at' i w' => ∃ (k : Nat) (q : AV), k ≤ n ∧ i = .int .i64 k ∧ at' = .int .i64 (atOf (newN f k)) ∧ q.d = ancOf (newN f k) ∧ Sev w' (w.heap.size + 2) (.int .i64 q.gen) (.int .i64 q.ep) (.int .i64 q.pos) (.int .i64 q.seq) (.int .i64 q.last) (.string q.lab) (.slice q.HA q.hs.length q.hc) ∧ OwnH w' (w.heap.size + 3) (.slice q.HA q.hs.length q.hc) q.hs ∧ Below (w.heap.size + 2) w0 w') (fun _ i _ => n - (RowKit.intOf i).toNat)
  case atStart => exact ⟨0, noAV, Nat.zero_le _, rfl, rfl, rfl, Q, ownH_nil _ _, Below.refl _ _⟩
  case round =>
    clear Q
    obtain ⟨w5, rfl⟩ : ∃ x, x = wr := ⟨wr, rfl⟩
    obtain ⟨k, q, hk, rfl, rfl, hqd, Q5, hq5, hb5⟩ := hrel
    have l5 := hb5.size
    have hb05 := hb0.trans (hb5.mono (by omega))
    by_cases hlt : k < n
    · obtain ⟨b1, off, x, rfl, hb1, r0, r1, m1, -, -, e1⟩ := got_at (hA.below hb05) (hR.below hb05) (show k < rs.length by omega)
      have i1 : (k : Int) < (n : Int) := by omega
      have hfk : f k = sayO z d s l x.e x.l k := by rw [HF0.out]; exact sayAt_get e1
      have HFK := Lib.hid hfk
      obtain ⟨g0, g1, g2, g3, g4⟩ := id (GG.keep hb5 (by omega))
      have HS := Lib.hid (show ∀ W, Below w5.heap.size w5 W → Calls Tryd.prog 17 #[.agg #[.int .i64 z, .int .i64 d, .int .i64 s, .int .i64 l, .int .i64 a], .agg #[.int .i64 x.e, .slice x.A x.l.length x.c], .int .i64 k] W fun e w' => RdQ W.heap.size ((f k).getD noAnc) (f k).isSome e w' ∧ Below W.heap.size W w' from fun W hW => by
        rw [hfk]
        exact rsays_any z d s l a x.e k x.A x.l.length x.c x.l W HO.out rfl m1.2.1 ((m1.1.below (hW.mono (by omega))).more (by have := hW.size; omega)))
      have HQ5 := Lib.hid hq5
      have HQD := Lib.hid hqd
      obtain ⟨o5, ho5⟩ : ∃ u, u = f k := ⟨_, rfl⟩
      have HO5 := Lib.hid ho5
      rw [← ho5] at HS
      clear hfk m1 hA hR hq5 hqd e1 hln ho5
      go_upto_region 6 with fail
      go_cut [9, 10] from 17 to 26 (fun v9 v10 wx => ∃ (gq : Nat) (y : AV), v9 = .pointer (some ⟨gq, 0, none⟩) ∧ v10 = .bool o5.isSome ∧ AC wx gq y ∧ y.d = o5.getD noAnc ∧ OwnH wx (w.heap.size + 3) (.slice y.HA y.hs.length y.hc) y.hs ∧ Below w5.heap.size w5 wx ∧ w5.heap.size ≤ gq)
      case first =>
        have HF := Lib.hid (show ∀ W, Below w5.heap.size w5 W → W.cell? ⟨w.heap.size, 0, none⟩ = some (.int .i64 z) ∧ W.cell? ⟨w.heap.size, 1, none⟩ = some (.int .i64 d) ∧ W.cell? ⟨w.heap.size, 2, none⟩ = some (.int .i64 s) ∧ W.cell? ⟨w.heap.size, 3, none⟩ = some (.int .i64 l) ∧ W.cell? ⟨w.heap.size, 4, none⟩ = some (.int .i64 a) ∧ W.cell? ⟨b1, off + k * 2, none⟩ = some (.int .i64 x.e) ∧ W.cell? ⟨b1, off + k * 2 + 1, none⟩ = some (.slice x.A x.l.length x.c) ∧ Below w5.heap.size w5 W from fun W h => ⟨kst h (by omega) g0, kst h (by omega) g1, kst h (by omega) g2, kst h (by omega) g3, kst h (by omega) g4, kst h (by omega) r0, kst h (by omega) r1, h⟩)
        clear g0 g1 g2 g3 g4 r0 r1
        go_region_held3 (fun W => W.cell? ⟨w.heap.size, 0, none⟩ = some (.int .i64 z) ∧ W.cell? ⟨w.heap.size, 1, none⟩ = some (.int .i64 d) ∧ W.cell? ⟨w.heap.size, 2, none⟩ = some (.int .i64 s) ∧ W.cell? ⟨w.heap.size, 3, none⟩ = some (.int .i64 l) ∧ W.cell? ⟨w.heap.size, 4, none⟩ = some (.int .i64 a) ∧ W.cell? ⟨b1, off + k * 2, none⟩ = some (.int .i64 x.e) ∧ W.cell? ⟨b1, off + k * 2 + 1, none⟩ = some (.slice x.A x.l.length x.c) ∧ Below w5.heap.size w5 W)
          ((refine HF.out _ ?_; first
            | with_reducible exact below7 (below_dr hb7) (Nat.le_refl _)
            | with_reducible exact below7 hb7 (Nat.le_refl _)
            | with_reducible exact hb7
            | with_reducible exact below_dr hb7
            | with_reducible exact kal (below_dr hb7) _
            | with_reducible exact kal hb7 _
            | with_reducible exact below_dr (bl w5 _)
            | with_reducible exact bl w5 _
            | with_reducible exact below_dr (Below.refl _ _)
            | fail))
          (first
            | (go_at_call 17; (with_reducible refine (HS.out _ (below_dr (Below.refl _ _))).mono ?_); rintro e w7 ⟨⟨y, hey, hyd, hyo⟩, hbq⟩; rw [AV.v] at hey; subst hey; have hb7 := bt (below_dr (Below.refl w5.heap.size w5)) hbq; clear hbq)
            | (go_at_call 17; (with_reducible refine (HS.out _ (below_dr (bl w5 _))).mono ?_); rintro e w7 ⟨⟨y, hey, hyd, hyo⟩, hbq⟩; rw [AV.v] at hey; subst hey; have hb7 := bt (below_dr (bl w5 _)) hbq; have PY := ((sev_new w5 (.int .i64 0) (.int .i64 0) (.int .i64 0) (.int .i64 0) (.int .i64 0) (.string ⟨#[]⟩) (.slice none 0 0) 31).keep (B := (w5.alloc (.cells #[.int .i64 0, .int .i64 0, .int .i64 0, .int .i64 0, .int .i64 0, .string ⟨#[]⟩, .slice none 0 0] 31)).heap.size) (below_dr (Below.refl _ _)) (by simp)).keep hbq (by simp); obtain ⟨z0, z1, z2, z3, z4, z5, z6, f0, f1, f2, f3, f4, f5, f6⟩ := id PY; clear hbq)
            | fail)
        all_goals (go_wp2_with fail; go_meet)
        · have h7 : OwnH _ _ _ _ := OwnH.below hyo (bl w7 (.cells #[.int .i64 y.gen, .int .i64 y.ep, .int .i64 y.pos, .int .i64 y.seq, .int .i64 y.last, .string y.lab, .slice y.HA y.hs.length y.hc] 31))
          exact ⟨w7.heap.size, y, rfl, rfl, ac_new w7 y, hyd, h7.less (show w.heap.size + 3 ≤ w5.heap.size by omega), kal hb7 _, hb7.size⟩
        · have hlt5 : w5.heap.size < (w5.alloc (.cells #[.int .i64 0, .int .i64 0, .int .i64 0, .int .i64 0, .int .i64 0, .string ⟨#[]⟩, .slice none 0 0] 31)).drew.heap.size := by show _ < (w5.alloc (.cells #[.int .i64 0, .int .i64 0, .int .i64 0, .int .i64 0, .int .i64 0, .string ⟨#[]⟩, .slice none 0 0] 31)).heap.size; simp
          have k7 := (((((((PY.set0 (.int .i64 y.gen)).set1 (.int .i64 y.ep)).set2 (.int .i64 y.pos)).set3 (.int .i64 y.seq)).set4 (.int .i64 y.last)).set5 (.string y.lab)).set6 (.slice y.HA y.hs.length y.hc))
          have h7 : OwnH _ _ _ _ := (OwnH.cell_set (o := 6) (OwnH.cell_set (o := 5) (OwnH.cell_set (o := 4) (OwnH.cell_set (o := 3) (OwnH.cell_set (o := 2) (OwnH.cell_set (o := 1) (OwnH.cell_set (o := 0) hyo hlt5 (.int .i64 y.gen)) hlt5 (.int .i64 y.ep)) hlt5 (.int .i64 y.pos)) hlt5 (.int .i64 y.seq)) hlt5 (.int .i64 y.last)) hlt5 (.string y.lab)) hlt5 (.slice y.HA y.hs.length y.hc))
          have b7 := below7 (v0 := .int .i64 y.gen) (v1 := .int .i64 y.ep) (v2 := .int .i64 y.pos) (v3 := .int .i64 y.seq) (v4 := .int .i64 y.last) (v5 := .string y.lab) (v6 := .slice y.HA y.hs.length y.hc) hb7 (Nat.le_refl w5.heap.size)
          have h8 := h7.less (show w.heap.size + 3 ≤ (w5.alloc (.cells #[.int .i64 0, .int .i64 0, .int .i64 0, .int .i64 0, .int .i64 0, .string ⟨#[]⟩, .slice none 0 0] 31)).heap.size by simp; omega)
          exact ⟨w5.heap.size, y, rfl, rfl, ac_sev k7, hyd, h8, b7, Nat.le_refl _⟩
      case rest =>
        obtain ⟨w6, rfl⟩ : ∃ x, x = wc := ⟨wc, rfl⟩
        obtain ⟨gq, y, rfl, rfl, FY, hyd, hyo, hb6, hgq⟩ := hcut
        have Q6 := Q5.keep hb6 (by omega)
        have hq6 := OwnH.below HQ5.out hb6
        have hb06 := bm hb5 (by omega) hb6
        have HQ6 : Hid (OwnH w6 _ _ _) := Lib.hid hq6
        have HYO := Lib.hid hyo
        have l6 := hb06.size
        obtain ⟨t, ht⟩ : ∃ t, t = atOf (newN f k) := ⟨_, rfl⟩
        rw [← ht]
        have HT := Lib.hid ht
        clear g0 g1 g2 g3 g4 r0 r1 HS Q5 hb5 hb05 hq6 hyo ht HQ5 hb6
        cases o5 with
        | none =>
          have hN : newN f (k + 1) = newN f k := by
            show stepN (newN f k) k (f k) = _
            rw [← HO5.out]
            rfl
          have HN := Lib.hid hN
          clear hN hyd
          go_wp2_with fail
          go_roundw
          case rel => exact ⟨k + 1, q, by omega, by go_num, by rw [HN.out, HT.out], by rw [HN.out]; exact HQD.out, Q6, HQ6.out, hb06⟩
          case measure => simp [RowKit.intOf]; omega
        | some X =>
          have hyX : y.d = X := hyd
          have HYX := Lib.hid hyX
          clear hyd hyX
          have hgz : w.heap.size + 2 < w.heap.size + 3 := Nat.lt_succ_self _
          obtain ⟨y0, y1, y2, y3, y4, y5, y6⟩ := id FY
          obtain ⟨q0, q1, q2, q3, q4, q5, q6, f0, f1, f2, f3, f4, f5, f6⟩ := id Q6
          rcases hNk : newN f k with _ | ⟨C, j⟩
          · have hN : newN f (k + 1) = some (X, k) := by
              show stepN (newN f k) k (f k) = _
              rw [← HO5.out, hNk]
              rfl
            obtain rfl : t = -1 := by rw [HT.out, hNk]; rfl
            have HN := Lib.hid hN
            clear hN hNk
            go_wp2_with fail
            have k7 := (((((((Q6.set0 (.int .i64 y.gen)).set1 (.int .i64 y.ep)).set2 (.int .i64 y.pos)).set3 (.int .i64 y.seq)).set4 (.int .i64 y.last)).set5 (.string y.lab)).set6 (.slice y.HA y.hs.length y.hc))
            have h7 := (OwnH.cell_set (o := 6) (OwnH.cell_set (o := 5) (OwnH.cell_set (o := 4) (OwnH.cell_set (o := 3) (OwnH.cell_set (o := 2) (OwnH.cell_set (o := 1) (OwnH.cell_set (o := 0) HYO.out hgz (.int .i64 y.gen)) hgz (.int .i64 y.ep)) hgz (.int .i64 y.pos)) hgz (.int .i64 y.seq)) hgz (.int .i64 y.last)) hgz (.string y.lab)) hgz (.slice y.HA y.hs.length y.hc))
            have b7 := below7 (v0 := .int .i64 y.gen) (v1 := .int .i64 y.ep) (v2 := .int .i64 y.pos) (v3 := .int .i64 y.seq) (v4 := .int .i64 y.last) (v5 := .string y.lab) (v6 := .slice y.HA y.hs.length y.hc) hb06 (Nat.le_refl (w.heap.size + 2))
            have H7 : Hid (OwnH _ _ _ _) := Lib.hid h7
            clear h7
            go_roundw
            case rel => exact ⟨k + 1, y, by omega, by go_num, by rw [HN.out]; rfl, by rw [HN.out]; exact HYX.out, k7, H7.out, b7⟩
            case measure => simp [RowKit.intOf]; omega
          · have htj : t = (j : Int) := by rw [HT.out, hNk]; rfl
            obtain rfl := htj
            have hqC : q.gen = C.gen := by
              have := HQD.out
              rw [hNk] at this
              exact congrArg Anc.gen this
            have hyg : y.gen = X.gen := congrArg Anc.gen HYX.out
            have j1 : ¬ (j : Int) < 0 := by omega
            by_cases hlt2 : C.gen < X.gen
            · have hN : newN f (k + 1) = some (X, k) := by
                show stepN (newN f k) k (f k) = _
                rw [← HO5.out, hNk]
                exact if_pos hlt2
              have j2 : q.gen < y.gen := by rw [hqC, hyg]; exact hlt2
              have HN := Lib.hid hN
              clear hN hNk hqC hyg hlt2
              go_wp2_with fail
              have k7 := (((((((Q6.set0 (.int .i64 y.gen)).set1 (.int .i64 y.ep)).set2 (.int .i64 y.pos)).set3 (.int .i64 y.seq)).set4 (.int .i64 y.last)).set5 (.string y.lab)).set6 (.slice y.HA y.hs.length y.hc))
              have h7 := (OwnH.cell_set (o := 6) (OwnH.cell_set (o := 5) (OwnH.cell_set (o := 4) (OwnH.cell_set (o := 3) (OwnH.cell_set (o := 2) (OwnH.cell_set (o := 1) (OwnH.cell_set (o := 0) HYO.out hgz (.int .i64 y.gen)) hgz (.int .i64 y.ep)) hgz (.int .i64 y.pos)) hgz (.int .i64 y.seq)) hgz (.int .i64 y.last)) hgz (.string y.lab)) hgz (.slice y.HA y.hs.length y.hc))
              have b7 := below7 (v0 := .int .i64 y.gen) (v1 := .int .i64 y.ep) (v2 := .int .i64 y.pos) (v3 := .int .i64 y.seq) (v4 := .int .i64 y.last) (v5 := .string y.lab) (v6 := .slice y.HA y.hs.length y.hc) hb06 (Nat.le_refl (w.heap.size + 2))
              have H7 : Hid (OwnH _ _ _ _) := Lib.hid h7
              clear h7
              go_roundw
              case rel => exact ⟨k + 1, y, by omega, by go_num, by rw [HN.out]; rfl, by rw [HN.out]; exact HYX.out, k7, H7.out, b7⟩
              case measure => simp [RowKit.intOf]; omega
            · have hN : newN f (k + 1) = newN f k := by
                show stepN (newN f k) k (f k) = _
                rw [← HO5.out, hNk]
                exact if_neg hlt2
              have j2 : ¬ q.gen < y.gen := by rw [hqC, hyg]; exact hlt2
              have HN := Lib.hid hN
              clear hN hNk hqC hyg hlt2
              go_wp2_with fail
              go_roundw
              case rel => exact ⟨k + 1, q, by omega, by go_num, by rw [HN.out, HT.out], by rw [HN.out]; exact HQD.out, Q6, HQ6.out, hb06⟩
              case measure => simp [RowKit.intOf]; omega
    · obtain rfl : k = n := by omega
      have P5 := P.keep hb5 (by omega)
      have i1 : ¬ (k : Int) < (k : Int) := by omega
      obtain ⟨q0, q1, q2, q3, q4, q5, q6, -, -, -, -, -, -, -⟩ := id Q5
      obtain ⟨z0, z1, z2, z3, z4, z5, z6, f0, f1, f2, f3, f4, f5, f6⟩ := id P5
      have HQ5 : Hid (OwnH w5 _ _ _) := Lib.hid hq5
      have HQD := Lib.hid hqd
      clear hq5 hqd hA hR
      go_wp2_with fail
      have k7 := (((((((P5.set0 (.int .i64 q.gen)).set1 (.int .i64 q.ep)).set2 (.int .i64 q.pos)).set3 (.int .i64 q.seq)).set4 (.int .i64 q.last)).set5 (.string q.lab)).set6 (.slice q.HA q.hs.length q.hc))
      have hgz : w.heap.size + 1 < w.heap.size + 3 := by omega
      have h7 := (OwnH.cell_set (o := 6) (OwnH.cell_set (o := 5) (OwnH.cell_set (o := 4) (OwnH.cell_set (o := 3) (OwnH.cell_set (o := 2) (OwnH.cell_set (o := 1) (OwnH.cell_set (o := 0) HQ5.out hgz (.int .i64 q.gen)) hgz (.int .i64 q.ep)) hgz (.int .i64 q.pos)) hgz (.int .i64 q.seq)) hgz (.int .i64 q.last)) hgz (.string q.lab)) hgz (.slice q.HA q.hs.length q.hc))
      exact bodyPost_ret (v := .tuple #[.agg #[.int .i64 q.gen, .int .i64 q.ep, .int .i64 q.pos, .int .i64 q.seq, .int .i64 q.last, .string q.lab, .slice q.HA q.hs.length q.hc], .int .i64 (atOf (newN f k))]) (by simp [results, Tryd.results18, go_sem, k7.c0, k7.c1, k7.c2, k7.c3, k7.c4, k7.c5, k7.c6]) rfl ⟨⟨q, rfl, HQD.out, OwnH.less h7 (by omega)⟩, below7 hb05 (by omega)⟩
end Go.Proofs.YtdjleimndolonaaDoor.nwt
