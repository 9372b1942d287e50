/-
  The law NewestGens: of anchors of unlike Gens the greatest one's is picked, of like ones the first. Conditions: 'Cts'.
-/
import Derived.Test.YtdjleimndolonaaDoorNwLA
import Derived.Test.YtdjleimndolonaaDoorGAe
namespace Go.Proofs.YtdjleimndolonaaDoor.nwt
open Go.RowKit Go.Lib
open Go.Proofs.YtdjleimndolonaaDoor.gmt (Ok five_new some_any)
open Go.Proofs.YtdjleimndolonaaDoor.anc (bl kal kst ks bm ka Anc noAnc AV noAV noAV_own encA RdQ ac_new AC G5 g5_new sev_new Sev firstA first_good rfirst_any wpList_row)
open Go.Proofs.YtdjleimndolonaaDoor.sel (Lies enc enc_inj enc_length)
open Go.Proofs.YtdjleimndolonaaDoor.lbl (labE)

theorem lab_x : labE (⟨#[120]⟩ : ByteArray).data.toList = 0 := by decide
/-- A new anchor with a Gen. -/
def genA (z d G : Int) : Anc := { firstA z d ⟨#[120]⟩ with gen := G }
theorem genA_good {z d s l a G : Int} (ho : Ok z d s l a) (h : 0 ≤ G ∧ G ≤ 4294967295) : anc.Good z d s l (genA z d G) := by
  obtain ⟨-, h2⟩ := first_good ho lab_x
  exact ⟨h, h2⟩
def bestOf (N : Option (Anc × Nat)) : Int := match N with | none => -1 | some (c, _) => c.gen
theorem own_got {w : World} {base : Nat} {X : Option Addr} {q x : Nat} {l : List UInt8} (h : Own w base 5 (.slice X q x) l) (hq : l.length = q) : Own w base 5 (.slice (GotR.A ⟨0, X, x, l⟩) (GotR.l ⟨0, X, x, l⟩).length (GotR.c ⟨0, X, x, l⟩)) (GotR.l ⟨0, X, x, l⟩) := by
  show Own w base _ (.slice X l.length x) l
  rw [hq]
  exact h

theorem y_app {w9 w10 : World} {ob : Obj} {ga : Nat} {y : Value} {u : Option Nat} (hg : (w9.alloc ob).grownBy w10 u) (h : w9.cell? ⟨ga, 0, none⟩ = some y) (hu : ∀ q, u = some q → q < ga) : w10.cell? ⟨ga, 0, none⟩ = some y := by
  refine (hg.cell_far (⟨ga, 0, none⟩ : Addr) ?_ ?_).trans ((World.cell?_alloc_some w9 ⟨ga, 0, none⟩ _ (by rw [h]; rfl)).trans h)
  · have h1 : ga < w9.heap.size := World.block_lt_of_cell? _ _ h
    show ga < (w9.heap.push _).size
    simp
    omega
  · intro hx
    exact absurd (hu ga hx.symm) (Nat.lt_irrefl _)
set_option maxRecDepth 100000 in
set_option maxHeartbeats 8000000 in
theorem newestGens_law (v1 v2 v3 : Int) (A : Option Addr) (n c : Nat) (L : List Int) (w : World) (hc : Cts w) (hL : L.length = n) (hA : SlV w w.heap.size A (ints L)) :
    Calls Tryd.prog 5 #[.int .i64 v1, .int .i64 v2, .int .i64 v3, .slice A n c] w fun e w' => e = .returned (.bool true) ∧ Below w.heap.size w w' := by
  have HC := Lib.hid hc
  clear hc
  go_enter Tryd.func5, Tryd.ntmps5
  go_upto_region 2 with (go_at_call 23; (with_reducible refine (some_any _ _ _ _ _ _).mono ?_); rintro e w1 ⟨⟨z, d, s, l, a, ho, rfl⟩, hb1⟩)
  have hx1 := bl w1 (.cells #[.int .i64 z, .int .i64 d, .int .i64 s, .int .i64 l, .int .i64 a] 23)
  have GG := g5_new w1 z d s l a
  have B1 := bt hb1 hx1
  obtain ⟨gG, hgG⟩ : ∃ g, g = w1.heap.size := ⟨_, rfl⟩
  rw [← hgG] at GG ⊢
  have lG : gG < (w1.alloc (.cells #[.int .i64 z, .int .i64 d, .int .i64 s, .int .i64 l, .int .i64 a] 23)).heap.size := by rw [hgG]; simp
  have lw : w.heap.size ≤ gG := by rw [hgG]; exact hb1.size
  clear hb1 hx1 hgG
  generalize w1.alloc (.cells #[.int .i64 z, .int .i64 d, .int .i64 s, .int .i64 l, .int .i64 a] 23) = w2 at *
  have HO := Lib.hid ho
  have ha3 : 1 ≤ a ∧ a ≤ 3 := ho.2.2.2.2
  clear ho
  obtain ⟨g0, g1, g2, g3, g4⟩ := id GG
  have HWK := Lib.hid (show ∀ W, Below w.heap.size w W → Calls Tryd.prog 16 #[] W fun e w' => e = .returned (.bool true) ∧ Below W.heap.size W w' from fun W hW => wk_new W (HC.out.next hW))
  by_cases h1 : (n : Int) < a
  · go_wp2_with fail
    go_ret
    exact ⟨rfl, B1⟩
  by_cases h2 : (10 : Int) < (n : Int)
  · go_wp2_with fail
    go_ret
    exact ⟨rfl, B1⟩
  obtain ⟨G', hG'⟩ : ∃ G' : Nat → Int, ∀ i (h : i < L.length), G' i = (IntKind.u64.wrap L[i]) % 1000 := ⟨fun i => if h : i < L.length then (IntKind.u64.wrap L[i]) % 1000 else 0, fun i h => by simp [h]⟩
  have HG' := Lib.hid hG'
  obtain ⟨f, hf⟩ : ∃ f : Nat → Option Anc, ∀ i, f i = some (genA z d (G' i)) := ⟨fun i => some (genA z d (G' i)), fun _ => rfl⟩
  have HFF := Lib.hid hf
  clear hG' hf
  go_wp2_with fail
  go_loopw [10, 11, 12, 13] (fun vl vb vat i w' => ∃ (k : Nat) (rs : List GotR), (k : Int) ≤ a ∧ i = .int .i64 k ∧ OwnG w' w2.heap.size vl rs ∧ rs.length = k ∧ (∀ j (h : j < rs.length), (rs[j]).d = (0, enc j (G' j).toNat (encA (genA z d (G' j))))) ∧ vb = .int .i64 (bestOf (newN f k)) ∧ vat = .int .i64 (idxOf (newN f k)) ∧ Below w2.heap.size w2 w') (fun _ _ _ i _ => (a - RowKit.intOf i).toNat)
  case atStart => exact ⟨0, [], by omega, rfl, ownG_nil _ _, rfl, fun j h => by simp at h, rfl, rfl, Below.refl _ _⟩
  case round =>
    clear g0 g1 g2 g3 g4
    obtain ⟨w5, rfl⟩ : ∃ x, x = wr := ⟨wr, rfl⟩
    obtain ⟨k, rs, hk, rfl, hown, hlk, hds, rfl, rfl, hb5⟩ := hrel
    have l5 := hb5.size
    obtain ⟨g0, g1, g2, g3, g4⟩ := id (GG.keep hb5 lG)
    by_cases hlt : (k : Int) < a
    · have hkL : k < L.length := by omega
      obtain ⟨bL, oL, rfl, hbL, hcL⟩ := hA (by rw [ints_length]; omega)
      have e0 := hcL k (by rw [ints_length]; exact hkL)
      rw [ints_get] at e0
      have i1 : (k : Int) < (n : Int) := by omega
      have i2 : (0 : Int) ≤ (k : Int) := by omega
      have hGk : (IntKind.u64.wrap L[k]) % 1000 = G' k := (HG'.out k hkL).symm
      have hG0 : 0 ≤ G' k ∧ G' k < 1000 := by
        rw [← hGk]
        exact ⟨Int.emod_nonneg _ (by omega), Int.emod_lt_of_pos _ (by omega)⟩
      have hgood := genA_good (G := G' k) HO.out (by omega)
      have HGD := Lib.hid hgood
      have HDS := Lib.hid hds
      have HOW := Lib.hid hown
      have HLK := Lib.hid hlk
      have e5 := ks (hb5.mono (show w.heap.size ≤ w2.heap.size by omega)) hbL ((B1.cell (p := ⟨bL, oL + k, none⟩) hbL).trans e0)
      have HGK := Lib.hid (And.intro hGk (show (IntKind.u64.wrap L[k]).tmod 1000 = G' k from (Int.tmod_eq_emod_of_nonneg (wrap_nonneg _)).trans hGk))
      clear hgood hds hown hlk hcL e0 hA hGk
      go_upto_region 10 with (go_at_call 24; (with_reducible refine (rfirst_any z d s l a (⟨#[120]⟩ : ByteArray) _ HO.out).mono ?_); rintro e w6 ⟨⟨y, hey, hyd, hyo⟩, hb6⟩; rw [AV.v] at hey; subst hey)
      have hx6 := bl w6 (.cells #[.int .i64 y.gen, .int .i64 y.ep, .int .i64 y.pos, .int .i64 y.seq, .int .i64 y.last, .string y.lab, .slice y.HA y.hs.length y.hc] 31)
      have PY := sev_new w6 (.int .i64 y.gen) (.int .i64 y.ep) (.int .i64 y.pos) (.int .i64 y.seq) (.int .i64 y.last) (.string y.lab) (.slice y.HA y.hs.length y.hc) 31
      have hyi := (AV.Own.inn hyo).below hx6
      have hb56 := bt hb6 hx6
      have hz6 := hb6.size
      obtain ⟨ga, hga⟩ : ∃ g, g = w6.heap.size := ⟨_, rfl⟩
      have lA : ga < (w6.alloc (.cells #[.int .i64 y.gen, .int .i64 y.ep, .int .i64 y.pos, .int .i64 y.seq, .int .i64 y.last, .string y.lab, .slice y.HA y.hs.length y.hc] 31)).heap.size := by rw [hga]; simp
      rw [← hga] at PY hyi hz6 ⊢
      have HYI := Lib.hid hyi
      have HYD := Lib.hid hyd
      replace g0 := kst hb56 (by omega) g0
      replace g1 := kst hb56 (by omega) g1
      replace g2 := kst hb56 (by omega) g2
      replace g3 := kst hb56 (by omega) g3
      replace g4 := kst hb56 (by omega) g4
      replace e5 := kst hb56 (by omega) e5
      clear hga hb6 hx6 hyi hyo hyd
      generalize w6.alloc (.cells #[.int .i64 y.gen, .int .i64 y.ep, .int .i64 y.pos, .int .i64 y.seq, .int .i64 y.last, .string y.lab, .slice y.HA y.hs.length y.hc] 31) = w7 at *
      obtain ⟨y0, y1, y2, y3, y4, y5, y6, f0, f1, f2, f3, f4, f5, f6⟩ := id PY
      obtain ⟨hgk, hgk2⟩ := HGK.out
      go_upto_region 11 with fail
      clear hgk hgk2
      have PY8 := PY.set0 (.int .i64 (G' k))
      have hb78 : Below ga w7 (w7.setCell ⟨ga, 0, none⟩ (.int .i64 (G' k))) := (Below.refl ga w7).setCell (p := ⟨ga, 0, none⟩) (Nat.le_refl ga) _
      have l8 : ga < ((w7.setCell ⟨ga, 0, none⟩ (.int .i64 (G' k)))).heap.size := by simpa using lA
      replace g0 := ks hb78 (by omega) g0
      replace g1 := ks hb78 (by omega) g1
      replace g2 := ks hb78 (by omega) g2
      replace g3 := ks hb78 (by omega) g3
      replace g4 := ks hb78 (by omega) g4
      have hb58 : Below w5.heap.size w5 (w7.setCell ⟨ga, 0, none⟩ (.int .i64 (G' k))) := hb56.trans (hb78.mono hz6)
      have HYI8 := Lib.hid ((HYI.out.below hb78).more (Nat.le_of_lt l8))
      clear y0 y1 y2 y3 y4 y5 y6 f0 f1 f2 f3 f4 f5 f6 PY lA hb78 hb56 e5 HYI
      generalize (w7.setCell ⟨ga, 0, none⟩ (.int .i64 (G' k))) = w8 at *
      have HB28 := Lib.hid (bm hb5 (Nat.le_refl _) hb58)
      have hyd' : AV.d { y with gen := G' k } = genA z d (G' k) := by
        show { y.d with gen := G' k } = _
        rw [HYD.out]
        rfl
      obtain ⟨q, hq⟩ : ∃ q, q = (encA (genA z d (G' k))).length + 11 := ⟨_, rfl⟩
      obtain ⟨M, hM⟩ : ∃ M, M = enc k (G' k).toNat (encA (genA z d (G' k))) := ⟨_, rfl⟩
      have hMq : M.length = q := by rw [hM, enc_length, hq]
      have HCL := Lib.hid (show Calls Tryd.prog 12 #[.agg #[.int .i64 z, .int .i64 d, .int .i64 s, .int .i64 l, .int .i64 a], .agg #[.int .i64 (G' k), .int .i64 y.ep, .int .i64 y.pos, .int .i64 y.seq, .int .i64 y.last, .string y.lab, .slice y.HA y.hs.length y.hc], .int .i64 k] w8 fun e' w' => CellQ w8.heap.size q M e' w' ∧ Below w8.heap.size w8 w' from by
        have h9 := HC.out.cell z d s l a k { y with gen := G' k } w8 (bt B1 HB28.out) HO.out (by exact ⟨HYI8.out.hh, HYI8.out.hi, HYI8.out.hl⟩) (by rw [hyd']; exact HGD.out) (by omega) hlt
        rw [hyd', Int.toNat_natCast] at h9
        rw [hM, hq]
        exact h9)
      have HMQ := Lib.hid hMq
      have HM := Lib.hid hM
      have hqm : 0 < q := by omega
      clear hq hM hMq hyd' HYI8
      obtain ⟨y0, y1, y2, y3, y4, y5, y6, -, -, -, -, -, -, -⟩ := id PY8
      go_upto_region 12 with (go_at_call 12; (with_reducible refine HCL.out.mono ?_); rintro e w9 ⟨⟨X, x, rfl, hbo⟩, hb9⟩; replace y0 := kst hb9 (World.block_lt_of_cell? _ _ y0) y0)
      have hb59 := bt hb58 hb9
      have HOW9 := Lib.hid ((HOW.out.below hb59))
      have HBO := Lib.hid hbo
      have hfar : ∀ q, u10.ownBlock = some q → q < w5.heap.size := fun q hq => (World.ownsRow.lt HOW.out.1 q hq).2
      have hfga : ∀ q, u10.ownBlock = some q → q < ga := fun q hq => Nat.lt_of_lt_of_le (hfar q hq) hz6
      have hz9 := hb59.size
      have lY := World.block_lt_of_cell? _ _ y0
      clear g0 g1 g2 g3 g4 y1 y2 y3 y4 y5 y6 HCL hb9 hbo PY8 HOW
      have hbest : newN f (k + 1) = stepN (newN f k) k (some (genA z d (G' k))) := by
        show stepN (newN f k) k (f k) = _
        rw [HFF.out]
      have hgg : (genA z d (G' k)).gen = G' k := rfl
      have hstep : (bestOf (newN f k) < G' k → bestOf (newN f (k + 1)) = G' k ∧ idxOf (newN f (k + 1)) = (k : Int)) ∧ (¬ bestOf (newN f k) < G' k → newN f (k + 1) = newN f k) := by
        rw [hbest]
        cases newN f k with
        | none => exact ⟨fun _ => ⟨rfl, rfl⟩, fun h => absurd (show (-1 : Int) < G' k by omega) h⟩
        | some p =>
          obtain ⟨C, j⟩ := p
          refine ⟨fun h => ?_, fun h => ?_⟩
          · have h' : C.gen < (genA z d (G' k)).gen := h
            show bestOf (if C.gen < (genA z d (G' k)).gen then some (genA z d (G' k), k) else some (C, j)) = _ ∧ idxOf (if C.gen < (genA z d (G' k)).gen then some (genA z d (G' k), k) else some (C, j)) = _
            rw [if_pos h']
            exact ⟨rfl, rfl⟩
          · exact if_neg h
      obtain ⟨bb, hbb⟩ : ∃ bb, bb = bestOf (newN f k) := ⟨_, rfl⟩
      obtain ⟨ib, hib⟩ : ∃ ib, ib = idxOf (newN f k) := ⟨_, rfl⟩
      rw [← hbb] at hstep ⊢
      rw [← hib]
      have HST := Lib.hid hstep
      have HBB := Lib.hid (And.intro hbb hib)
      clear hstep hbb hib hbest hgg hG0
      have hlk := HLK.out
      by_cases hcmp : bb < G' k
      all_goals
        go_wp2_with (first
          | (at_builtin
             refine wpList_row _ rfl (.tmp 59) (.tmp 62) _ _ rfl w2.heap.size 2 32 28 (.agg #[.int .i64 0, .slice none 0 0]) Tryd.underlying24 g_info rfl u10 rs.length (gvs rs) rfl (World.ownsRow.alloc HOW9.out.1 _) _ 1 _ rfl (src_got (P := Tryd.prog) (heap_alloc_new w9 _) Tryd.underlying24 (by simp [Value.oneCell'])) (by rw [hlk]; unfold maxLen; omega) (by omega) (by simp; omega) ?_
             intro v3 w10 h3 hg3
             replace y0 := y_app hg3 y0 hfga))
        have hMq := HMQ.out
        subst hMq
        have hM := HM.out
        have b10 : Below w2.heap.size w2 w10 := ((bm hb5 (Nat.le_refl _) hb59).alloc (by omega) _).grown hg3 (by simp; omega) (fun x hx => (World.ownsRow.lt HOW9.out.1 x hx).1)
        have hl28 := HB28.out.size
        have hown10 : OwnG w10 w2.heap.size v3 (rs ++ [⟨0, X, x, M⟩]) := OwnG.more (HOW9.out.below (bl w9 _)) hg3 (own_got ((HBO.out.below (bl w9 _)).less hl28) rfl) h3
        have hds10 : ∀ j (h : j < (rs ++ [(⟨0, X, x, M⟩ : GotR)]).length), ((rs ++ [(⟨0, X, x, M⟩ : GotR)])[j]).d = (0, enc j (G' j).toNat (encA (genA z d (G' j)))) := by
          intro j hj
          by_cases hjk : j < rs.length
          · rw [List.getElem_append_left hjk]
            exact HDS.out j hjk
          · have hj2 : j = rs.length := by
              rw [List.length_append, List.length_singleton] at hj
              omega
            subst hj2
            rw [List.getElem_append_right (Nat.le_refl _)]
            simp only [Nat.sub_self, List.getElem_cons_zero]
            show ((0 : Int), M) = _
            rw [hM, hlk]
        have hlen10 : (rs ++ [(⟨0, X, x, M⟩ : GotR)]).length = k + 1 := by
          rw [List.length_append, List.length_singleton, hlk]
        have hmeas : (a - RowKit.intOf (.int .i64 ((k : Int) + 1))).toNat < (a - RowKit.intOf (.int .i64 (k : Int))).toNat := by
          show (a - ((k : Int) + 1)).toNat < (a - (k : Int)).toNat
          omega
        refine ⟨⟨k + 1, _, by omega, by go_num, hown10, hlen10, hds10, ?_, ?_, b10⟩, hmeas⟩
      · rw [(HST.out.1 hcmp).1]
      · rw [(HST.out.1 hcmp).2]
      · rw [HST.out.2 hcmp, HBB.out.1]
      · rw [HST.out.2 hcmp, HBB.out.2]
    · have hka : (k : Int) = a := by omega
      obtain ⟨V, rfl, rfl, hV2⟩ := ownG_gv hown
      have hin := GV.Own.inn hV2
      have hsay : ∀ i, i < k → sayAt z d s l (gds V.rs) i = f i := by
        intro i hi
        have hir : i < V.rs.length := by omega
        have e1 : (gds V.rs)[i]? = some (0, enc i (G' i).toNat (encA (genA z d (G' i)))) := by
          show (V.rs.map GotR.d)[i]? = _
          rw [List.getElem?_map, List.getElem?_eq_getElem hir]
          show some (V.rs[i]).d = _
          rw [hds i hir]
        have hGi : 0 ≤ G' i ∧ G' i < 1000 := by
          have hiL : i < L.length := by omega
          rw [HG'.out i hiL]
          exact ⟨Int.emod_nonneg _ (by omega), Int.emod_lt_of_pos _ (by omega)⟩
        rw [sayAt_get e1, HFF.out]
        exact sayO_some HO.out (says_enc (genA_good HO.out (by omega)) (by omega))
      obtain ⟨Z, i, hZ⟩ : ∃ Z i, newN f k = some (Z, i) := by
        cases hn : newN f k with
        | some p => exact ⟨p.1, p.2, rfl⟩
        | none =>
          have h0 := newN_none.1 hn 0 (by omega)
          rw [HFF.out] at h0
          cases h0
      rw [hZ, show bestOf (some (Z, i)) = Z.gen from rfl, show idxOf (some (Z, i)) = (i : Int) from rfl]
      have HPK := Lib.hid (show Calls Tryd.prog 11 #[.agg #[.int .i64 z, .int .i64 d, .int .i64 s, .int .i64 l, .int .i64 a], V.v] w5 fun e' w' => PickR w5.heap.size Z (i : Int) 0 e' w' ∧ Below w5.heap.size w5 w' from by
        have h9 := HC.out.pick z d s l a V.A V.rs.length V.c V.rs w5 (bt B1 hb5) HO.out rfl hin.l.1 hin.l.2 (by rw [hlk]; exact hka) hin.h hin.i
        rw [hlk, newN_same hsay, hZ, ← hlk] at h9
        exact h9)
      unfold GV.v at HPK ⊢
      have B5 := bt B1 hb5
      clear hown hds hV2 hin hsay hlk hZ HG' HFF B1 hb5
      go_upto_region 18 with (go_at_call 11; (with_reducible refine HPK.out.mono ?_); rintro e w6 ⟨⟨y, hey, hyd, -⟩, hb6⟩; rw [AV.v] at hey; subst hey)
      have hx6 := bl w6 (.cells #[.int .i64 y.gen, .int .i64 y.ep, .int .i64 y.pos, .int .i64 y.seq, .int .i64 y.last, .string y.lab, .slice y.HA y.hs.length y.hc] 31)
      have FP := ac_new w6 y
      have B6 := bt (bt B5 hb6) hx6
      have hgen : y.gen = Z.gen := congrArg Anc.gen hyd
      clear hb6 hx6 B5 hyd g0 g1 g2 g3 g4
      obtain ⟨y0, -, -, -, -, -, -⟩ := id FP
      clear FP
      generalize w6.alloc (.cells #[.int .i64 y.gen, .int .i64 y.ep, .int .i64 y.pos, .int .i64 y.seq, .int .i64 y.last, .string y.lab, .slice y.HA y.hs.length y.hc] 31) = w7 at *
      have hbq : (y.gen == Z.gen) = true := beq_iff_eq.2 hgen
      clear hgen
      go_wp2_with (go_at_call 16; (with_reducible refine (HWK.out _ B6).mono ?_); rintro e wz ⟨rfl, hbz⟩)
      go_ret
      exact ⟨rfl, bt B6 hbz⟩
end Go.Proofs.YtdjleimndolonaaDoor.nwt
