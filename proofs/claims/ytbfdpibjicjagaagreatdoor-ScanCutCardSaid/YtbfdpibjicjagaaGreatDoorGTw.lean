/-
  Package table: what parse comes to where the bytes are enough. Conditions: rows shorter than 2^20.
  Package table: Read. Conditions: rows shorter than 2^20.
-/
import Derived.Test.YtbfdpibjicjagaaGreatDoorGTb
import Derived.Sort.CutIn
import Derived.Maps.AppendAt
set_option maxHeartbeats 4000000
set_option maxRecDepth 100000
namespace Go.Proofs.YtbfdpibjicjagaaGreatDoor.tbl
open Go.RowKit Go.Shelf Go.Lib
open Go.Proofs.YtbfdpibjicjagaaGreatDoor.gmt (Ok)
open Go.Proofs.YtbfdpibjicjagaaGreatDoor.anc (flat_get flat_len slv_cell bl kal kst ks bm ka row_form row_below)
open Go.Proofs.YtbfdpibjicjagaaGreatDoor.pck (le le_length num unrow Unrowed)
attribute [local go_sem] Oper.semAt_some
theorem trip_lost (b : List UInt8) (k : Nat) : lostAt (b.drop (k * 9)) 0 = lostAt b k := by
  unfold lostAt
  rw [List.drop_drop, Nat.zero_mul, Nat.zero_add]
def PrsY (base : Nat) (es : List Ent) (q : Nat) (e : Ending) (w' : World) : Prop := ∃ (t : TV) (Y : Option Addr) (y : Nat), e = .returned (.tuple #[t.v, .slice Y q y, .int .i64 0]) ∧ t.es = es ∧ t.Own w' base
def PrsR (b : List UInt8) (D base q : Nat) (e : Ending) (w' : World) : Prop :=
  ((∀ k, k ≤ D → lostAt b k ≤ 1) ∧ PrsY base (entsN b (D + 1)) q e w') ∨ ((∃ k, k ≤ D ∧ 1 < lostAt b k) ∧ PrsNo e)
theorem heap_kept {W W' : World} {row : Option Nat} {b : Nat} {cs : Array Value} {t : TypeId} {f : Nat × Nat} (h : W.heap[b]? = some (.cells cs t f)) (hg : W.grownBy W' row) (hr : ∀ k, row = some k → ∃ o : Obj, W.heap[k]? = some o ∧ o.isCells = false) : W'.heap[b]? = some (.cells cs t f) :=
  (hg.block b (Array.getElem?_eq_some_iff.1 h).1 (fun e => by obtain ⟨o, ho, hc⟩ := hr b e.symm; rw [h] at ho; cases ho; cases hc)).trans h
theorem row_kept {W W' : World} {row : Option Nat} {n₀ n q : Nat} {e : TypeId} {v : Value} {xs : List Value} (hrow : W.ownsRow n₀ e n v q xs) (hg : W.grownBy W' row) (hr : ∀ k, row = some k → ∃ o : Obj, W.heap[k]? = some o ∧ o.isCells = false) : W'.ownsRow n₀ e n v q xs := by
  refine hrow.kept hg ?_
  rcases hrow.2 with ⟨rfl, _⟩ | ⟨g, cap, cur, rfl, _, hgb, _⟩
  · exact .inl rfl
  · refine .inr fun e' => ?_
    obtain ⟨o, ho, hc⟩ := hr g (by simpa [Value.ownBlock] using e'.symm)
    rw [hgb] at ho
    cases ho
    cases hc
theorem boxed_kept {W W' : World} {row : Option Nat} {b : Nat} {v : Value} {t : TypeId} (h : Boxed W b t v) (hg : W.grownBy W' row) (hr : ∀ k, row = some k → ∃ o : Obj, W.heap[k]? = some o ∧ o.isCells = false) : Boxed W' b t v := heap_kept h hg hr
theorem up_ents (b : List UInt8) (k : Nat) : ((up k).map fun p => entN (b.drop (p.val * 9))) = entsN b k := by
  refine List.ext_getElem? fun j => ?_
  by_cases h : j < k
  · rw [List.getElem?_map, up_get h, entsN_get h]
    rfl
  · rw [List.getElem?_eq_none (by rw [List.length_map, up_length]; omega), List.getElem?_eq_none (by rw [entsN_length]; omega)]
structure PI (gR gE Bs Bn nb m c : Nat) (vR : Value) (cur : Array Value) (W : World) : Prop where
  boxR : W.heap[gR]? = some (.cells #[vR] 49 (0, 0))
  boxE : W.heap[gE]? = some (.cells #[.int .i64 0] 33 (0, 0))
  bS : W.heap[Bs]? = some (.cells #[.slice (some ⟨nb, 0, none⟩) m c] 43 (0, 0))
  bN : W.heap[Bn]? = some (.cells #[.int .i64 3] 3 (0, 0))
  num : W.heap[nb]? = some (.cells cur 3 (0, 0))
section
variable {gR gE Bs Bn nb m c : Nat} {vR : Value} {cur : Array Value} {W W' : World}
theorem PI.kept {row : Option Nat} (h : PI gR gE Bs Bn nb m c vR cur W) (hg : W.grownBy W' row) (hr : ∀ k, row = some k → ∃ o : Obj, W.heap[k]? = some o ∧ o.isCells = false) : PI gR gE Bs Bn nb m c vR cur W' :=
  ⟨heap_kept h.boxR hg hr, heap_kept h.boxE hg hr, heap_kept h.bS hg hr, heap_kept h.bN hg hr, heap_kept h.num hg hr⟩
theorem row_other {k n₀ n q : Nat} {cs : Array Value} {t e : TypeId} {v : Value} {xs : List Value} {tmp : Obj} (h : W.heap[k]? = some (.cells cs t (0, 0))) (hte : t ≠ e) (hrow : W.ownsRow n₀ e n v q xs) (hg : (W.alloc tmp).grownBy W' v.ownBlock) : W'.heap[k]? = some (.cells cs t (0, 0)) := by
  have hk : k < W.heap.size := (Array.getElem?_eq_some_iff.1 h).1
  refine (hg.block k (by simp; omega) ?_).trans ((show (W.alloc tmp).heap[k]? = W.heap[k]? from by first | exact heap_alloc_old W tmp k hk | exact heap_alloc_old W tmp hk).trans h)
  rcases hrow.2 with ⟨rfl, _⟩ | ⟨g, cap, cur', rfl, _, hgb, _⟩
  · simp [Value.ownBlock]
  · intro e'
    obtain rfl : k = g := by simpa [Value.ownBlock] using e'
    have := h.symm.trans hgb
    simp at this
    exact hte this.2
theorem PI.row {n₀ q : Nat} {v : Value} {xs : List Value} {tmp : Obj} (h : PI gR gE Bs Bn nb m c vR cur W) (hrow : W.ownsRow n₀ 111 3 v q xs) (hg : (W.alloc tmp).grownBy W' v.ownBlock) : PI gR gE Bs Bn nb m c vR cur W' :=
  ⟨row_other h.boxR (by decide) hrow hg, row_other h.boxE (by decide) hrow hg, row_other h.bS (by decide) hrow hg, row_other h.bN (by decide) hrow hg, row_other h.num (by decide) hrow hg⟩
theorem PI.set {g : Nat} (h : PI gR gE Bs Bn nb m c vR cur W) (hR : gR ≠ g) (hE : gE ≠ g) (hS : Bs ≠ g) (hN : Bn ≠ g) (hn : nb ≠ g) (v : Value) : PI gR gE Bs Bn nb m c vR cur (W.setCell ⟨g, 0, none⟩ v) :=
  ⟨(Below.heap_setCell _ _ _ _ hR).trans h.boxR, (Below.heap_setCell _ _ _ _ hE).trans h.boxE, (Below.heap_setCell _ _ _ _ hS).trans h.bS, (Below.heap_setCell _ _ _ _ hN).trans h.bN, (Below.heap_setCell _ _ _ _ hn).trans h.num⟩
theorem PI.alloc (h : PI gR gE Bs Bn nb m c vR cur W) (o : Obj) : PI gR gE Bs Bn nb m c vR cur (W.alloc o) := h.kept (World.grownBy_alloc W o none) (fun k e => by cases e)
theorem PI.kc (h : PI gR gE Bs Bn nb m c vR cur W) (h' : PI gR gE Bs Bn nb m c vR cur W') : KC Bs Bn W W' := ⟨h'.bS.trans h.bS.symm, h'.bN.trans h.bN.symm⟩
end
def RndI (w : World) (b : List UInt8) (D nb Bs m c : Nat) (vR : Value) (cur : Array Value) (pre : List (Fin (D + 1))) (W : World) : Prop :=
  ((∃ v, Boxed W (w.heap.size + 1) 91 v ∧ W.ownsRow w.heap.size 111 3 v pre.length (evs (pre.map fun p => entN (b.drop (p.val * 9)))) ∧ True) ∧ (PI (w.heap.size + 1 + 1) (w.heap.size + 1 + 1 + 1) Bs (Bs + 1) nb m c vR cur W ∧ (∀ p ∈ pre, lostAt b p.val ≤ 1))) ∧ Below w.heap.size w W
def RndX (w : World) (b : List UInt8) (D : Nat) (c : Code) (pre : List (Fin (D + 1))) (W : World) : Prop :=
  (c = .ret ∧ (∃ p ∈ pre, 1 < lostAt b p.val) ∧ Boxed W (w.heap.size + 1) 91 (.slice none 0 0) ∧ Boxed W (w.heap.size + 1 + 1) 49 (.slice none 0 0) ∧ Boxed W (w.heap.size + 1 + 1 + 1) 33 (.int .i64 4)) ∧ Below w.heap.size w W
theorem rndI_own (w : World) (b : List UInt8) (D nb Bs m c B : Nat) (vR : Value) (cur : Array Value) (hB : w.heap.size ≤ B) : OwnFrom B (RndI w b D nb Bs m c vR cur) := by
  intro s W W' row hs hg hr
  have hr2 : ∀ r, row = some r → ∃ o : Obj, W.heap[r]? = some o ∧ o.isCells = false := fun r e => (hr r e).2
  obtain ⟨⟨h1, h2, h3⟩, h4⟩ := hs
  obtain ⟨v, hv, hrow, -⟩ := h1
  have k1 := row_kept hrow hg hr2
  exact ⟨⟨⟨v, heap_kept hv hg hr2, k1, trivial⟩, h2.kept hg hr2, h3⟩, h4.grown hg h4.size (fun k e => Nat.le_trans hB (hr k e).1)⟩
theorem rndX_own (w : World) (b : List UInt8) (D B : Nat) (c : Code) (hB : w.heap.size ≤ B) : OwnFrom B (RndX w b D c) := by
  intro s W W' row hs hg hr
  have hr2 : ∀ r, row = some r → ∃ o : Obj, W.heap[r]? = some o ∧ o.isCells = false := fun r e => (hr r e).2
  obtain ⟨⟨h1, h2, h3, h5, h6⟩, h4⟩ := hs
  exact ⟨⟨h1, h2, heap_kept h3 hg hr2, heap_kept h5 hg hr2, heap_kept h6 hg hr2⟩, h4.grown hg h4.size (fun k e => Nat.le_trans hB (hr k e).1)⟩
theorem parse_in (z s l a : Int) (D : Nat) (A : Option Addr) (n c : Nat) (b : List UInt8) (w : World) (h1 : 1 ≤ D) (h2 : D ≤ 4) (hn : b.length = n) (hc : n ≤ c) (hx : c ≤ maxLen) (hl : n ≤ 1048576) (hA : Sl w w.heap.size A b) (hs : (D + 1) * 9 ≤ n) :
    CallsIn Fence.wide 9 Tryz.prog 132 #[.agg #[.int .i64 z, .int .i64 D, .int .i64 s, .int .i64 l, .int .i64 a], .slice A n c] w fun e w' => PrsR b D w.heap.size (n - (D + 1) * 9) e w' ∧ Below w.heap.size w w' := by
  have hro : Fence.wide.round = none := rfl
  have hfn : ∀ k, Fence.wide.fn k := fun _ => trivial
  have cT := fun W => tableSizes_at z s l a D W h1 h2
  obtain ⟨a0, a1, a2, a3⟩ := @four_new w (.cells #[.int .i64 z, .int .i64 D, .int .i64 s, .int .i64 l, .int .i64 a] 23) (.cells #[.slice none 0 0] 91) (.cells #[.slice none 0 0] 49) (.cells #[.int .i64 0] 33)
  have hB0 := kal (kal (kal (bl w (.cells #[.int .i64 z, .int .i64 D, .int .i64 s, .int .i64 l, .int .i64 a] 23)) (.cells #[.slice none 0 0] 91)) (.cells #[.slice none 0 0] 49)) (.cells #[.int .i64 0] 33)
  have hsz : ((((w.alloc (.cells #[.int .i64 z, .int .i64 D, .int .i64 s, .int .i64 l, .int .i64 a] 23)).alloc (.cells #[.slice none 0 0] 91)).alloc (.cells #[.slice none 0 0] 49)).alloc (.cells #[.int .i64 0] 33)).heap.size = w.heap.size + 4 := by simp
  have HU := Lib.hid (show ∀ (W : World) (A' : Option Addr) (c' : Nat), Below w.heap.size w W → SlV W W.heap.size A' (reps row41 (D + 1)) → Calls Tryz.prog 108 #[.slice A n c, .slice A' ((D + 1) * 3 : Nat) c'] W fun e w' => Unrowed W.heap.size (.ok (numL b (D + 1), b.drop ((D + 1) * 9))) e w' ∧ Below W.heap.size W w' from fun W A' c' hW hA' => by
    have h9 := unrow_tab (D + 1) n A A' c c' b W hn (by omega) hc hx hl (hA.next hW) hA'
    rw [if_neg (by omega)] at h9
    exact h9)
  have HRL := Lib.hid (show (b.drop ((D + 1) * 9)).length = n - (D + 1) * 9 by rw [List.length_drop, hn])
  have HNL := Lib.hid (numL_length b (D + 1))
  clear hA hn
  refine callsIn_of_wp_marks Tryz.func132 rfl (hfn _) ?_ hro
  simp only [Tryz.ntmps132, List.size_toArray, List.length_cons, List.length_nil, Nat.reduceAdd, Nat.reduceSub, Array.replicate_succ, Array.replicate_zero, List.push_toArray, List.append_toArray, List.nil_append, List.cons_append]
  refine wpIn_wide.2 ?_
  go_upto_region 1 with fail
  generalize ((((w.alloc (.cells #[.int .i64 z, .int .i64 D, .int .i64 s, .int .i64 l, .int .i64 a] 23)).alloc (.cells #[.slice none 0 0] 91)).alloc (.cells #[.slice none 0 0] 49)).alloc (.cells #[.int .i64 0] 33)) = w0 at *
  have bT : Boxed w0 (w.heap.size + 1) 91 (.slice none 0 0) := a1
  have bR : Boxed w0 (w.heap.size + 1 + 1) 49 (.slice none 0 0) := a2
  have bE : Boxed w0 (w.heap.size + 1 + 1 + 1) 33 (.int .i64 0) := a3
  obtain ⟨g0, g1, g2, g3, g4⟩ := g5_of a0
  have HBT := Lib.hid bT
  have HBR := Lib.hid bR
  have HBE := Lib.hid bE
  clear a0 a1 a2 a3 bT bR bE
  go_upto_region 2 with (first
    | (go_at_call 134; (with_reducible refine (cT _).mono ?_); rintro e w2 ⟨⟨A3, c3, rfl, o3⟩, hb2⟩; have sl3 := owns_sl o3)
    | (go_at_call 108; (with_reducible refine (HU.out _ _ _ (bt hB0 hb2) sl3).mono ?_); rintro e w3 ⟨⟨v3, u3, rfl, ov, ou⟩, hb3⟩; have ovb := ov; obtain ⟨X, xc, hv3, hx1, hx2, -, -⟩ := ov.form; obtain ⟨Y, yc, hu3, -, -, -, -⟩ := ou.form; rw [ints_length, HNL.out] at hv3; rw [HRL.out] at hu3; subst hv3; subst hu3; clear ov ou; have hb23 := bt hb2 hb3; have bT := boxed_below HBT.out hb23; have bR := boxed_below HBR.out hb23; have bE := boxed_below HBE.out hb23; have t0 := bT.cell; have t1 := bT.frozen; have r0 := bR.cell; have r1 := bR.frozen; have e0 := bE.cell; have e1 := bE.frozen))
  obtain ⟨nb, cur, rfl, hnb, hnum, htk⟩ : ∃ nb cur, X = some ⟨nb, 0, none⟩ ∧ w2.heap.size ≤ nb ∧ w3.heap[nb]? = some (.cells cur 3 (0, 0)) ∧ cur.toList.take ((D + 1) * 3) = ints (numL b (D + 1)) := by
    rcases ovb.2 with ⟨h, h0⟩ | ⟨g, cap, cur, hv, hb, hg, -, -, -, ht⟩
    · rw [ints_length, HNL.out] at h0
      omega
    · simp only [Value.slice.injEq] at hv
      rw [ints_length, HNL.out, Nat.mul_one] at ht
      exact ⟨g, cur, hv.1, hb, hg, ht⟩
  have lnb : w.heap.size + 4 ≤ nb := by have := hb2.size; omega
  have lnb2 : nb < w3.heap.size := (Array.getElem?_eq_some_iff.1 hnum).1
  have HTK := Lib.hid htk
  rw [ints_length, HNL.out] at hx1
  have n1 : w.heap.size + 1 + 1 ≠ w.heap.size + 1 := by omega
  have n2 : w.heap.size + 1 + 1 + 1 ≠ w.heap.size + 1 := by omega
  have n3 : w.heap.size + 1 + 1 + 1 ≠ w.heap.size + 1 + 1 := by omega
  obtain ⟨q, hq⟩ : ∃ q, q = n - (D + 1) * 9 := ⟨_, rfl⟩
  have HQ := Lib.hid hq
  rw [← hq] at HRL ⊢
  have bT5 := (bT.other n1.symm (.slice Y q yc)).other n2.symm (.int .i64 0)
  have bR5 := (bR.set (.slice Y q yc)).other n3.symm (.int .i64 0)
  have bE5 := (bE.other n3 (.slice Y q yc)).set (.int .i64 0)
  have num5 := (Below.heap_setCell (w3.setCell ⟨w.heap.size + 1 + 1, 0, none⟩ (.slice Y q yc)) ⟨w.heap.size + 1 + 1 + 1, 0, none⟩ (.int .i64 0) nb (by show nb ≠ w.heap.size + 1 + 1 + 1; omega)).trans ((Below.heap_setCell w3 ⟨w.heap.size + 1 + 1, 0, none⟩ (.slice Y q yc) nb (by show nb ≠ w.heap.size + 1 + 1; omega)).trans hnum)
  have hb5 := ((bt hB0 hb23).setCell (p := ⟨w.heap.size + 1 + 1, 0, none⟩) (show w.heap.size ≤ w.heap.size + 1 + 1 by omega) (.slice Y q yc)).setCell (p := ⟨w.heap.size + 1 + 1 + 1, 0, none⟩) (show w.heap.size ≤ w.heap.size + 1 + 1 + 1 by omega) (.int .i64 0)
  have HL5 := Lib.hid (show w3.heap.size = ((w3.setCell ⟨w.heap.size + 1 + 1, 0, none⟩ (.slice Y q yc)).setCell ⟨w.heap.size + 1 + 1 + 1, 0, none⟩ (.int .i64 0)).heap.size by simp)
  have l5 : w.heap.size + 4 ≤ w3.heap.size := by have := hb23.size; omega
  clear HBT HBR HBE hb2 hb3 hb23 o3 sl3 ovb bT bR bE t0 t1 r0 r1 e0 e1 g0 g1 g2 g3 g4 hB0 hsz htk hnum hq HU hnb
  generalize (w3.setCell ⟨w.heap.size + 1 + 1, 0, none⟩ (.slice Y q yc)).setCell ⟨w.heap.size + 1 + 1 + 1, 0, none⟩ (.int .i64 0) = w5 at *
  rw [HL5.out] at l5 lnb2
  clear HL5
  have e5 := bE5.cell
  go_wp2_with (first
    | (go_at_call 136; (with_reducible refine (entrySizes_at _).mono ?_); rintro e w6 ⟨⟨a6, c6, rfl, -⟩, hb6⟩)
    | (go_at_call 135; (with_reducible refine (callsIn_wide.1 (chunk_in 9 _ _ _ _)).mono ?_); rintro e w' ⟨rfl, rfl⟩))
  have num6 := (hb6.block nb lnb2).trans num5
  have bT6 := boxed_below bT5 hb6
  have bR6 := boxed_below bR5 hb6
  have bE6 := boxed_below bE5 hb6
  have hb56 := bt hb5 hb6
  have l6 : w5.heap.size ≤ w6.heap.size := hb6.size
  have hbC := kal (bl w6 (.cells #[.slice (some ⟨nb, 0, none⟩) ((D + 1) * 3 : Nat) xc] 43)) (.cells #[.int .i64 3] 3)
  have bS7 : Boxed ((w6.alloc (.cells #[.slice (some ⟨nb, 0, none⟩) ((D + 1) * 3 : Nat) xc] 43)).alloc (.cells #[.int .i64 3] 3)) w6.heap.size 43 (.slice (some ⟨nb, 0, none⟩) ((D + 1) * 3 : Nat) xc) := (Boxed.new w6 _ _).alloc _
  have bN7 : Boxed ((w6.alloc (.cells #[.slice (some ⟨nb, 0, none⟩) ((D + 1) * 3 : Nat) xc] 43)).alloc (.cells #[.int .i64 3] 3)) (w6.heap.size + 1) 3 (.int .i64 3) := by
    have h9 := Boxed.new (w6.alloc (.cells #[.slice (some ⟨nb, 0, none⟩) ((D + 1) * 3 : Nat) xc] 43)) 3 (.int .i64 3)
    rwa [show (w6.alloc (.cells #[.slice (some ⟨nb, 0, none⟩) ((D + 1) * 3 : Nat) xc] 43)).heap.size = w6.heap.size + 1 by simp] at h9
  have HL7 : ((w6.alloc (.cells #[.slice (some ⟨nb, 0, none⟩) ((D + 1) * 3 : Nat) xc] 43)).alloc (.cells #[.int .i64 3] 3)).heap.size = w6.heap.size + 2 := by simp
  have lnb6 : nb < w6.heap.size := by omega
  have num7 := (hbC.block nb lnb6).trans num6
  have bT7 := boxed_below bT6 hbC
  have bR7 := boxed_below bR6 hbC
  have bE7 := boxed_below bE6 hbC
  have hb7 := bt hb56 hbC
  obtain ⟨Bs, hBs⟩ : ∃ g, g = w6.heap.size := ⟨_, rfl⟩
  rw [← hBs] at bS7 bN7 HL7 lnb6 l6 ⊢
  clear hBs hb56 hbC num6 bT6 bR6 bE6 hb6 num5 bT5 bR5 bE5 e5 hb5
  generalize (w6.alloc (.cells #[.slice (some ⟨nb, 0, none⟩) ((D + 1) * 3 : Nat) xc] 43)).alloc (.cells #[.int .i64 3] 3) = W0 at *
  have hP0 : PI (w.heap.size + 1 + 1) (w.heap.size + 1 + 1 + 1) Bs (Bs + 1) nb ((D + 1) * 3) xc (.slice Y q yc) cur W0 := ⟨bR7, bE7, bS7, bN7, num7⟩
  have HNC := Lib.hid (show ∀ (x : Fin (D + 1)) (W : World), PI (w.heap.size + 1 + 1) (w.heap.size + 1 + 1 + 1) Bs (Bs + 1) nb ((D + 1) * 3) xc (.slice Y q yc) cur W → ∀ (i : Nat) (t : Int), i < 3 → (trip (b.drop (x.val * 9)))[i]? = some t → W.cell? ⟨nb, x.val * 3 + i, none⟩ = some (.int .i64 t) from fun x W hP i t hi ht => by
    rw [cell_of_row _ _ _ _ _ _ hP.num]
    have h8 := numL_at b (D + 1) x.val i x.2 hi
    rw [ht] at h8
    have h9 : (ints (numL b (D + 1)))[x.val * 3 + i]? = some (.int .i64 t) := by
      unfold ints
      rw [List.getElem?_map, h8]
      rfl
    rw [← HTK.out, List.getElem?_take_of_lt (by have := x.2; omega), Array.getElem?_toList] at h9
    exact h9)
  refine (wpIn_wide (n := 9)).1 ?_
  refine wpIn_rangeFunc_ownH hro (n := 9) (by omega) (gf := 142) (lb := #[.pointer (some ⟨Bs, 0, none⟩), .pointer (some ⟨Bs + 1, 0, none⟩)]) rfl (hfn _) (enters_of Tryz.func142 (by kernel_rfl) rfl)
    (chunk_stops 8 (by omega) Bs (Bs + 1) nb 0 xc (D + 1) ((D + 1) * 3) rfl (by omega) hx1 W0 (by omega) (by omega) (Boxed.cell bS7) (Boxed.cell bN7)) (fun h k => KC.trans h k) (fun W l o o' hl h _ _ => ⟨World.putObj_heap_other (by omega), World.putObj_heap_other (by omega)⟩) (Below.refl _ _) (fun _ => rfl)
    (RndI w b D nb Bs ((D + 1) * 3) xc (.slice Y q yc) cur) (RndX w b D)
    (rndI_own w b D nb Bs ((D + 1) * 3) xc W0.heap.size (.slice Y q yc) cur (by omega)) (fun c => rndX_own w b D W0.heap.size c (by omega))
    ⟨⟨⟨_, bT7, World.ownsRow_nil _ _ _ _, trivial⟩, hP0, by simp⟩, hb7⟩
    (fun x a' _ => a' = { tmps := #[.agg #[.int .i64 z, .int .i64 D, .int .i64 s, .int .i64 l, .int .i64 a], .slice A n c, .pointer (some ⟨w.heap.size, 0, none⟩), undef, .pointer (some ⟨w.heap.size + 1, 0, none⟩), .pointer (some ⟨w.heap.size + 1 + 1, 0, none⟩), .pointer (some ⟨w.heap.size + 1 + 1 + 1, 0, none⟩), .slice (some ⟨nb, 0, none⟩) ((D + 1) * 3 : Nat) xc, .slice (some ⟨nb, x.val * 3, none⟩) 3 3, undef, .tuple #[.slice (some ⟨nb, 0, none⟩) ((D + 1) * 3 : Nat) xc, .slice Y q yc, .int .i64 0], .slice A n c, .agg #[.int .i64 z, .int .i64 D, .int .i64 s, .int .i64 l, .int .i64 a], .slice A3 ((D + 1) * 3 : Nat) c3, .tuple #[.slice (some ⟨nb, 0, none⟩) ((D + 1) * 3 : Nat) xc, .slice Y q yc, .int .i64 0], .slice (some ⟨nb, 0, none⟩) ((D + 1) * 3 : Nat) xc, .slice Y q yc, .int .i64 0, .int .i64 0, .bool false, undef, .slice (some ⟨nb, 0, none⟩) ((D + 1) * 3 : Nat) xc, .slice (some a6) 3 c6, .int .i64 3, .func (.func 142) #[] #[.pointer (some ⟨Bs, 0, none⟩), .pointer (some ⟨Bs + 1, 0, none⟩)], .slice (some ⟨nb, x.val * 3, none⟩) 3 3, undef, undef, undef, undef, undef, undef, undef, undef, undef, undef, undef, undef, undef, undef, undef, undef, undef, undef, undef, undef, undef, undef, undef, undef, undef, undef, undef], defers := [] })
    (fun _ _ _ _ _ _ hs _ _ => hs)
    ?assign ?body ?done ?stop
  case assign =>
    rintro l pre x W K hi hK
    unfold encC
    gi_wp2
    exact hK _ _ (KeepsFrom.refl _ _) (KC.refl _ _ _) hi rfl
  case body =>
    rintro l9 pre x a' W hl0 - hI rfl hlt
    obtain ⟨⟨⟨v, bT, hrow, -⟩, hP, hlo⟩, hB⟩ := hI
    have c0 := HNC.out x W hP 0 _ (by omega) rfl
    have c1 := HNC.out x W hP 1 _ (by omega) rfl
    have c2 := HNC.out x W hP 2 _ (by omega) rfl
    rw [trip_lost] at c2
    rw [Nat.add_zero] at c0
    have HE := Lib.hid (show entN (b.drop (x.val * 9)) = ⟨(entN (b.drop (x.val * 9))).st, (entN (b.drop (x.val * 9))).sm, lostAt b x.val == 1⟩ by
      rw [← trip_lost]
      rfl)
    obtain ⟨st, hst⟩ : ∃ t, t = (entN (b.drop (x.val * 9))).st := ⟨_, rfl⟩
    obtain ⟨sm, hsm⟩ : ∃ t, t = (entN (b.drop (x.val * 9))).sm := ⟨_, rfl⟩
    obtain ⟨L, hL⟩ : ∃ t, t = lostAt b x.val := ⟨_, rfl⟩
    rw [← hst] at c0 HE
    rw [← hsm] at c1 HE
    rw [← hL] at c2 HE
    have HL := Lib.hid hL
    obtain ⟨ls, hls⟩ : ∃ t, t = (L == 1) := ⟨_, rfl⟩
    rw [← hls] at HE
    have q1 : (((L : Nat) : Int) == 1) = ls := by
      rw [hls]
      by_cases h : L = 1
      · rw [h]; rfl
      · rw [beq_eq_false_iff_ne.2 h, beq_eq_false_iff_ne.2 (by omega)]
    have HLS := Lib.hid hls
    obtain ⟨t2, ht2⟩ : ∃ t : Int, t = (L : Int) := ⟨_, rfl⟩
    rw [← ht2] at c2 q1
    have HT2 := Lib.hid ht2
    have hnbW : nb < W.heap.size := (Array.getElem?_eq_some_iff.1 hP.num).1
    have hmix : Tryz.prog.follows .mixedOrders = true := by kernel_rfl
    clear hst hsm hL hls ht2
    dsimp only
    gi_upto_region 6 with fail
    refine reg6_in l9 _ nb (x.val * 3) st sm t2 ls _ _ _ _ _ _ _ _ _ _ _ _ _ _ _ _ _ _ _ _ _ _ _ _ _ _ _ _ _ _ _ _ _ _ _ _ _ _ _ _ _ _ _ _ _ _ _ _ _ _ _ _  W _ _ c0 c1 c2 q1 hnbW ?_
    intro u26 u27 u28 u29 u30 u31 u32 u33 u34 u35 u36 wc hcE hgr
    dsimp only
    gi_upto_region 7 with fail
    obtain ⟨fl, hfl⟩ : ∃ f : Int, f = ((lsN ls : Nat) : Int) := ⟨_, rfl⟩
    have cF := fun W => flag_n ls W
    rw [← hfl] at cF
    obtain ⟨bad, hbad⟩ : ∃ f : Bool, f = (fl != t2) := ⟨_, rfl⟩
    have e2 : wc.cell? ⟨W.heap.size, 2, none⟩ = some (.bool ls) := by rw [cell_of_row _ _ _ _ _ _ hcE]; rfl
    have HBAD := Lib.hid (show bad = true ↔ 1 < L by
      rw [hbad, hfl, HT2.out, HLS.out]
      by_cases h1 : L = 1
      · rw [h1]; decide
      · rw [beq_eq_false_iff_ne.2 h1]
        by_cases h0 : L = 0
        · rw [h0]; decide
        · refine iff_of_true (bne_iff_ne.2 (fun k => h0 ?_)) (by omega)
          have : ((lsN false : Nat) : Int) = 0 := rfl
          omega)
    refine reg7_in l9 _ nb (x.val * 3) W.heap.size (by omega) t2 fl ls bad _ _ _ _ _ _ _ _ _ _ _ _ _ _ _ _ _ _ _ _ _ _ _ _ _ _ _ _ _ _ _ _ _ _ _ _ _ _ _ _ _ _ _ _ _ _ _ _ _ _ _  wc _ _ (hgr.cell c2 (by simp)) e2 hbad.symm cF ?_
    intro u37 u38 u39 u40 u41 u42 wx hgx
    dsimp only
    have nn : ∀ (j : Nat) (o : Obj), (none : Option Nat) = some j → W.heap[j]? = some o → o.isCells = true := fun j o e => by cases e
    have hKO : KeepsOthers W wx := (KeepsOthers.of_grownBy hgr (fun j o e => by cases e)).trans (KeepsOthers.of_grownBy hgx (fun j o e => by cases e))
    have hPx := (hP.kept hgr (fun k e => by cases e)).kept hgx (fun k e => by cases e)
    have bTx := (bT.kept hgr (by simp)).kept hgx (by simp)
    have hrx := row_kept (row_kept hrow hgr (fun k e => by cases e)) hgx (fun k e => by cases e)
    have hBx := (hB.grown hgr hB.size (fun k e => by cases e))
    replace hBx := hBx.grown hgx hBx.size (fun k e => by cases e)
    have hcX := (hgx.block _ (Array.getElem?_eq_some_iff.1 hcE).1 (by simp)).trans hcE
    have bRx : Boxed wx (w.heap.size + 1 + 1) 49 (.slice Y q yc) := hPx.boxR
    have bEx : Boxed wx (w.heap.size + 1 + 1 + 1) 33 (.int .i64 0) := hPx.boxE
    have t0 := bTx.cell
    have t1 := bTx.frozen
    have HPW := Lib.hid hP
    clear c0 c1 c2 e2 hfl hbad cF hcE hgr hgx hP bT hrow hB nn q1
    cases bad
    case true =>
      have hlost := HBAD.out.1 rfl
      have r0 := bRx.cell
      have r1 := bRx.frozen
      have e0 := bEx.cell
      have e1 := bEx.frozen
      have T1 := (bTx.set (.slice none 0 0)).other n1.symm (.slice none 0 0)
      have R1 := (bRx.other n1 (.slice none 0 0)).set (.slice none 0 0)
      have E1 := (bEx.other n2 (.slice none 0 0)).other n3 (.slice none 0 0)
      have T2 := T1.other n2.symm (.int .i64 4)
      have R2 := R1.other n3.symm (.int .i64 4)
      have E2 := E1.set (.int .i64 4)
      have hK2 := ((hKO.trans (KeepsOthers.setCell wx ⟨w.heap.size + 1, 0, none⟩ (.slice none 0 0))).trans (KeepsOthers.setCell _ ⟨w.heap.size + 1 + 1, 0, none⟩ (.slice none 0 0))).trans (KeepsOthers.setCell _ ⟨w.heap.size + 1 + 1 + 1, 0, none⟩ (.int .i64 4))
      have hB2 := ((hBx.setCell (p := ⟨w.heap.size + 1, 0, none⟩) (show w.heap.size ≤ w.heap.size + 1 by omega) (.slice none 0 0)).setCell (p := ⟨w.heap.size + 1 + 1, 0, none⟩) (show w.heap.size ≤ w.heap.size + 1 + 1 by omega) (.slice none 0 0)).setCell (p := ⟨w.heap.size + 1 + 1 + 1, 0, none⟩) (show w.heap.size ≤ w.heap.size + 1 + 1 + 1 by omega) (.int .i64 4)
      have hlost2 : 1 < lostAt b x.val := by rw [← HL.out]; exact hlost
      clear HNC cT
      gi_wp2
      exact ⟨hK2.from _, ⟨rfl, ⟨x, by simp, hlost2⟩, T2, R2, E2⟩, hB2⟩
    case false =>
      have hok : L ≤ 1 := by
        rcases Nat.lt_or_ge 1 L with h | h
        · have := HBAD.out.2 h; cases this
        · exact h
      have x0 : wx.cell? ⟨W.heap.size, 0, none⟩ = some (.int .i64 st) := by rw [cell_of_row _ _ _ _ _ _ hcX]; rfl
      have x1 : wx.cell? ⟨W.heap.size, 1, none⟩ = some (.int .i64 sm) := by rw [cell_of_row _ _ _ _ _ _ hcX]; rfl
      have x2 : wx.cell? ⟨W.heap.size, 2, none⟩ = some (.bool ls) := by rw [cell_of_row _ _ _ _ _ _ hcX]; rfl
      have hlo2 : ∀ p ∈ pre ++ [x], lostAt b p.val ≤ 1 := fun p hp => by
        rcases List.mem_append.1 hp with hp | hp
        · exact hlo p hp
        · rw [List.mem_singleton.1 hp, ← HL.out]; exact hok
      obtain ⟨i0, hi, hz0, hz1, hz2⟩ : ∃ i, Tryz.prog.info? 111 = some i ∧ i.zero = some (.agg #[.int .i64 0, .int .i64 0, .bool false]) ∧ i.size = 3 ∧ i.bytes = 24 := by
        have h9 := e_info
        cases hq : Tryz.prog.info? 111 with
        | none => rw [hq] at h9; cases h9
        | some i =>
          rw [hq] at h9
          simp only [Option.map_some, Option.some.injEq, Prod.mk.injEq] at h9
          exact ⟨i, rfl, h9.1, h9.2.1, h9.2.2⟩
      have HEV := Lib.hid (show evs ((pre ++ [x]).map fun p => entN (b.drop (p.val * 9))) = evs (pre.map fun p => entN (b.drop (p.val * 9))) ++ [.int .i64 st, .int .i64 sm, .bool ls] by
        rw [List.map_append, evs_append]
        simp only [List.map_cons, List.map_nil, HE.out]
        rfl)
      have hcells : ∀ j u, [Value.int .i64 st, .int .i64 sm, .bool ls][j]? = some u → (wx.alloc (.cells #[.int .i64 st, .int .i64 sm, .bool ls] 111)).cell? ((⟨wx.heap.size, 0, none⟩ : Addr).add j) = some u := fun j u hj => by
        rw [Addr.add_lit, cell_of_row _ _ _ _ _ _ (heap_alloc_new wx _), Nat.zero_add]
        simpa using hj
      have hones : ∀ u ∈ [Value.int .i64 st, .int .i64 sm, .bool ls], u.oneCell' = true := by
        intro u hu
        simp only [List.mem_cons, List.not_mem_nil, or_false] at hu
        rcases hu with rfl | rfl | rfl <;> rfl
      have hpl : pre.length ≤ 4 := by omega
      have HI := Lib.hid hi
      have HZ0 := Lib.hid hz0
      have HZ1 := Lib.hid hz1
      have HZ2 := Lib.hid hz2
      have HCE := Lib.hid hcells
      have hsz := hBx.size
      have HO1 := Lib.hid hones
      have HLO := Lib.hid hlo2
      generalize evs (pre.map fun p => entN (b.drop (p.val * 9))) = xs at *
      clear HNC cT hlo hlo2 hones hi hz0 hz1 hz2 hcells hcX
      gi_upto_region 9 with fail
      gi_wp2_with (first
        | (gi_at_builtin
           refine wpListIn_append_own _ rfl _ _ _ rfl w.heap.size 111 i0 (.agg #[.int .i64 0, .int .i64 0, .bool false]) 3 24 Tryz.underlying89 HI.out HZ0.out HZ1.out HZ2.out (by kernel_rfl) (by decide) _ _ _ rfl (hrx.alloc _) ⟨wx.heap.size, 0, none⟩ 1 1 [.int .i64 st, .int .i64 sm, .bool ls] rfl rfl HCE.out HO1.out (by unfold maxLen; omega) (by omega) (by simp; omega) ?_
           intro v' w1 hown' hgrow _
           obtain ⟨g', cap', rfl⟩ := ownsRow_succ hown'
           obtain ⟨hv1, hv2, hr2, hk2, hb2⟩ := Boxed.appended bTx (by decide) hrx hBx.size (by omega) hown' hgrow
           have hc1 := hv1.cell
           have hf1 := hv1.frozen
           have hP2 := (hPx.row hrx hgrow).set (g := w.heap.size + 1) (by omega) (by omega) (by omega) (by omega) (by omega) (.slice (some ⟨g', 0, none⟩) (pre.length + 1) cap')))
      have hr3 : (w1.setCell ⟨w.heap.size + 1, 0, none⟩ (.slice (some ⟨g', 0, none⟩) (pre.length + 1) cap')).ownsRow w.heap.size 111 3 (.slice (some ⟨g', 0, none⟩) (pre.length + 1) cap') (pre ++ [x]).length (evs ((pre ++ [x]).map fun p => entN (b.drop (p.val * 9)))) := by
        rw [HEV.out, List.length_append]
        exact hr2
      exact ⟨(hKO.trans hk2).from _, HPW.out.kc hP2, ⟨⟨_, hv2, hr3, trivial⟩, hP2, HLO.out⟩, hBx.trans hb2⟩
  case done =>
    rintro D' ys W hD rfl hI hK
    obtain ⟨⟨⟨v, bT, hrow, -⟩, hP, hlo⟩, hB⟩ := hI
    have bR : Boxed W (w.heap.size + 1 + 1) 49 (.slice Y q yc) := hP.boxR
    have bE : Boxed W (w.heap.size + 1 + 1 + 1) 33 (.int .i64 0) := hP.boxE
    have t0 := bT.cell
    have t1 := bT.frozen
    have r0 := bR.cell
    have r1 := bR.frozen
    have e0 := bE.cell
    have e1 := bE.frozen
    rw [up_ents] at hrow
    rw [up_length] at hrow
    obtain ⟨A9, c9, rfl, -, -, -⟩ := row_form hrow
    have hlo2 : ∀ k, k ≤ D → lostAt b k ≤ 1 := fun k hk => hlo ⟨k, by omega⟩ (List.mem_finRange _)
    clear HNC cT hP0 bT7 bR7 bE7 num7 bS7 bN7 hP
    go_wp2_with fail
    go_region
    have hR1 := hrow.kept (grownBy_setCell' W (w.heap.size + 1) (.slice A9 (D + 1) c9)) (.inr (bT.not_row (by decide) hrow).symm)
    have T1 := bT.set (.slice A9 (D + 1) c9)
    have R1 := bR.other n1 (.slice A9 (D + 1) c9)
    have E1 := bE.other n2 (.slice A9 (D + 1) c9)
    have K1 := (KeepsOthers.setCell W ⟨w.heap.size + 1, 0, none⟩ (.slice A9 (D + 1) c9)).same D' _ hK rfl
    have B1 := hB.setCell (p := ⟨w.heap.size + 1, 0, none⟩) (show w.heap.size ≤ w.heap.size + 1 by omega) (.slice A9 (D + 1) c9)
    generalize W.setCell ⟨w.heap.size + 1, 0, none⟩ (.slice A9 (D + 1) c9) = W1 at *
    have hR2 := hR1.kept (grownBy_setCell' W1 (w.heap.size + 1 + 1) (.slice Y q yc)) (.inr (R1.not_row (by decide) hR1).symm)
    have T2 := T1.other n1.symm (.slice Y q yc)
    have R2 := R1.set (.slice Y q yc)
    have E2 := E1.other n3 (.slice Y q yc)
    have K2 := (KeepsOthers.setCell W1 ⟨w.heap.size + 1 + 1, 0, none⟩ (.slice Y q yc)).same D' _ K1 rfl
    have B2 := B1.setCell (p := ⟨w.heap.size + 1 + 1, 0, none⟩) (show w.heap.size ≤ w.heap.size + 1 + 1 by omega) (.slice Y q yc)
    generalize W1.setCell ⟨w.heap.size + 1 + 1, 0, none⟩ (.slice Y q yc) = W2 at *
    have hR3 := hR2.kept (grownBy_setCell' W2 (w.heap.size + 1 + 1 + 1) (.int .i64 0)) (.inr (E2.not_row (by decide) hR2).symm)
    have T3 := T2.other n2.symm (.int .i64 0)
    have R3 := R2.other n3.symm (.int .i64 0)
    have E3 := E2.set (.int .i64 0)
    have K3 := (KeepsOthers.setCell W2 ⟨w.heap.size + 1 + 1 + 1, 0, none⟩ (.int .i64 0)).same D' _ K2 rfl
    have B3 := below_dr (B2.setCell (p := ⟨w.heap.size + 1 + 1 + 1, 0, none⟩) (show w.heap.size ≤ w.heap.size + 1 + 1 + 1 by omega) (.int .i64 0))
    replace hR3 : (W2.setCell ⟨w.heap.size + 1 + 1 + 1, 0, none⟩ (.int .i64 0)).drew.ownsRow w.heap.size 111 3 (.slice A9 (D + 1) c9) (D + 1) (evs (entsN b (D + 1))) := hR3
    replace T3 : Boxed (W2.setCell ⟨w.heap.size + 1 + 1 + 1, 0, none⟩ (.int .i64 0)).drew (w.heap.size + 1) 91 (.slice A9 (D + 1) c9) := T3
    replace R3 : Boxed (W2.setCell ⟨w.heap.size + 1 + 1 + 1, 0, none⟩ (.int .i64 0)).drew (w.heap.size + 1 + 1) 49 (.slice Y q yc) := R3
    replace E3 : Boxed (W2.setCell ⟨w.heap.size + 1 + 1 + 1, 0, none⟩ (.int .i64 0)).drew (w.heap.size + 1 + 1 + 1) 33 (.int .i64 0) := E3
    replace K3 : (W2.setCell ⟨w.heap.size + 1 + 1 + 1, 0, none⟩ (.int .i64 0)).drew.heap[D']? = some (.deferred (some [])) := K3
    generalize (W2.setCell ⟨w.heap.size + 1 + 1 + 1, 0, none⟩ (.int .i64 0)).drew = W3 at *
    clear T1 R1 E1 K1 B1 hR1 T2 R2 E2 K2 B2 hR2 t0 t1 r0 r1 e0 e1 bT bR bE hrow hK
    go_wp2_with fail
    refine ⟨by simp, .inl ⟨_, _, rfl, run_takeDeferred K3, ?_⟩⟩
    have q0 := (boxed_kept T3 (grownBy_putObj' W3 D' (.deferred none)) (fun r e => by cases e; exact ⟨_, K3, rfl⟩)).cell
    have q1 := (boxed_kept R3 (grownBy_putObj' W3 D' (.deferred none)) (fun r e => by cases e; exact ⟨_, K3, rfl⟩)).cell
    have q2 := (boxed_kept E3 (grownBy_putObj' W3 D' (.deferred none)) (fun r e => by cases e; exact ⟨_, K3, rfl⟩)).cell
    have hR4 := row_kept hR3 (grownBy_putObj' W3 D' (.deferred none)) (fun r e => by cases e; exact ⟨_, K3, rfl⟩)
    have hLn := entsN_length b (D + 1)
    refine ⟨.tuple #[.agg #[.slice A9 (D + 1) c9], .slice Y q yc, .int .i64 0], ?_, .inl ⟨hlo2, ⟨A9, c9, entsN b (D + 1)⟩, Y, yc, by rw [← HQ.out]; unfold TV.v; rw [hLn], rfl, by unfold TV.Own OwnE; rw [hLn]; exact hR4⟩, B3.trans (belowK_b (w := w) (Nat.le_refl _) W3 D' _ _ (by omega) K3 rfl rfl)⟩
    simp [results, Tryz.f132, go_sem, q0, q1, q2]
  case stop =>
    rintro D' c pre W hD ⟨k, hk, rfl⟩ hX hK
    obtain ⟨⟨rfl, ⟨p, hp, hpl⟩, bT, bR, bE⟩, hB⟩ := hX
    gi_wp2
    refine ⟨by simp, .inl ⟨_, _, rfl, run_takeDeferred hK, ?_⟩⟩
    have q0 := (boxed_kept bT (grownBy_putObj' W D' (.deferred none)) (fun r e => by cases e; exact ⟨_, hK, rfl⟩)).cell
    have q1 := (boxed_kept bR (grownBy_putObj' W D' (.deferred none)) (fun r e => by cases e; exact ⟨_, hK, rfl⟩)).cell
    have q2 := (boxed_kept bE (grownBy_putObj' W D' (.deferred none)) (fun r e => by cases e; exact ⟨_, hK, rfl⟩)).cell
    refine ⟨.tuple #[.agg #[.slice none 0 0], .slice none 0 0, .int .i64 4], ?_, .inr ⟨⟨p.val, by have := p.2; omega, hpl⟩, rfl⟩, hB.trans (belowK_b (w := w) (Nat.le_refl _) W D' _ _ (by omega) hK rfl rfl)⟩
    simp [results, Tryz.f132, go_sem, q0, q1, q2]
end Go.Proofs.YtbfdpibjicjagaaGreatDoor.tbl
namespace Go.Proofs.YtbfdpibjicjagaaGreatDoor.tbl
open Go.RowKit Go.Lib
open Go.Proofs.YtbfdpibjicjagaaGreatDoor.gmt (Ok five_new check_ok check_no)
open Go.Proofs.YtbfdpibjicjagaaGreatDoor.anc (flat_get flat_len slv_cell bl kal kst ks bm ka row_form row_below)
def PrsC (b : List UInt8) (D n base : Nat) (t : TV) (q : Nat) (ec : Int) (w' : World) : Prop :=
  (ec = 0 ∧ (D + 1) * 9 ≤ n ∧ (∀ k, k ≤ D → lostAt b k ≤ 1) ∧ q = n - (D + 1) * 9 ∧ t.es = entsN b (D + 1) ∧ t.Own w' base) ∨ (ec = 4 ∧ (n < (D + 1) * 9 ∨ ∃ k, k ≤ D ∧ 1 < lostAt b k))
def PrsA (b : List UInt8) (D n base : Nat) (e : Ending) (w' : World) : Prop := ∃ (t : TV) (Y : Option Addr) (q y : Nat) (ec : Int), e = .returned (.tuple #[t.v, .slice Y q y, .int .i64 ec]) ∧ PrsC b D n base t q ec w'
theorem tparse_any (z s l a : Int) (D : Nat) (A : Option Addr) (n c : Nat) (b : List UInt8) (w : World) (h1 : 1 ≤ D) (h2 : D ≤ 4) (hn : b.length = n) (hc : n ≤ c) (hx : c ≤ maxLen) (hl : n ≤ 1048576) (hA : Sl w w.heap.size A b) :
    Calls Tryz.prog 132 #[.agg #[.int .i64 z, .int .i64 D, .int .i64 s, .int .i64 l, .int .i64 a], .slice A n c] w fun e w' => PrsA b D n w.heap.size e w' ∧ Below w.heap.size w w' := by
  by_cases hs : n < (D + 1) * 9
  · refine (Go.callsIn_wide.1 (tparse_short z s l a D A n c b w h1 h2 hn hc hx hl hA hs)).mono ?_
    rintro e w' ⟨he, hb⟩
    exact ⟨⟨noTV, none, 0, 0, 4, he, .inr ⟨rfl, .inl hs⟩⟩, hb⟩
  · refine (Go.callsIn_wide.1 (parse_in z s l a D A n c b w h1 h2 hn hc hx hl hA (by omega))).mono ?_
    rintro e w' ⟨⟨hlo, t, Y, y, he, hte, hto⟩ | ⟨hlo, he⟩, hb⟩
    · exact ⟨⟨t, Y, _, y, 0, he, .inl ⟨rfl, by omega, hlo, rfl, hte, hto⟩⟩, hb⟩
    · exact ⟨⟨noTV, none, 0, 0, 4, he, .inr ⟨rfl, .inr hlo⟩⟩, hb⟩
def RdR (b : List UInt8) (D base : Nat) (c : Bool) (e : Ending) (w' : World) : Prop := if c = true then TbE base (entsN b (D + 1)) 0 e w' else TbE base [] 4 e w'
theorem tread_any (cc : Bool) (z s l a : Int) (D : Nat) (A : Option Addr) (n c : Nat) (b : List UInt8) (w : World) (ho : Ok z D s l a) (hn : b.length = n) (hc : n ≤ c) (hx : c ≤ maxLen) (hl : n ≤ 1048576) (hA : Sl w w.heap.size A b) (hcc : cc = true ↔ Told D b) :
    Calls Tryz.prog 131 #[.agg #[.int .i64 z, .int .i64 D, .int .i64 s, .int .i64 l, .int .i64 a], .slice A n c] w fun e w' => RdR b D w.heap.size cc e w' ∧ Below w.heap.size w w' := by
  have cC := fun W => check_ok z D s l a W ho
  have o2 := ho.2.1
  have hD1 : 1 ≤ D := by omega
  have hD : D ≤ 4 := by omega
  have HP := Lib.hid (show ∀ W, Below w.heap.size w W → Calls Tryz.prog 132 #[.agg #[.int .i64 z, .int .i64 D, .int .i64 s, .int .i64 l, .int .i64 a], .slice A n c] W fun e w' => PrsA b D n W.heap.size e w' ∧ Below W.heap.size W w' from fun W hW => tparse_any z s l a D A n c b W hD1 hD hn hc hx hl (hA.next hW))
  have HCK := Lib.hid (show ∀ (g : Bool) (t : TV) (W : World), t.In W W.heap.size → t.es.length ≤ 1048576 → (g = true ↔ Good D t.es) → Calls Tryz.prog 133 #[.agg #[.int .i64 z, .int .i64 D, .int .i64 s, .int .i64 l, .int .i64 a], .agg #[.slice t.A t.es.length t.c]] W fun e w' => e = .returned (.int .i64 (if g = true then 0 else 1)) ∧ Below W.heap.size W w' from fun g t W ht hlt hg => tcheck_any g z s l a D t W ho ht hlt hg)
  have HT := Lib.hid hcc
  have HN := Lib.hid hn
  have s1 : (w.alloc (.cells #[.int .i64 z, .int .i64 D, .int .i64 s, .int .i64 l, .int .i64 a] 23)).heap.size = w.heap.size + 1 := by simp
  have hx2 := bl (w.alloc (.cells #[.int .i64 z, .int .i64 D, .int .i64 s, .int .i64 l, .int .i64 a] 23)) (.cells #[.slice none 0 0] 91)
  have GG := (g5_new w z D s l a).keep hx2 (by omega)
  have T1 := c1_new (w.alloc (.cells #[.int .i64 z, .int .i64 D, .int .i64 s, .int .i64 l, .int .i64 a] 23)) (.slice none 0 0) 91
  rw [s1] at T1
  have hb0 := kal (bl w (.cells #[.int .i64 z, .int .i64 D, .int .i64 s, .int .i64 l, .int .i64 a] 23)) (.cells #[.slice none 0 0] 91)
  have l1 : w.heap.size + 1 < ((w.alloc (.cells #[.int .i64 z, .int .i64 D, .int .i64 s, .int .i64 l, .int .i64 a] 23)).alloc (.cells #[.slice none 0 0] 91)).heap.size := by simp
  clear s1 hx2 ho o2 hcc hn hA
  go_enter Tryz.func131, Tryz.ntmps131
  go_upto_region 1 with fail
  generalize (w.alloc (.cells #[.int .i64 z, .int .i64 D, .int .i64 s, .int .i64 l, .int .i64 a] 23)).alloc (.cells #[.slice none 0 0] 91) = w0 at *
  obtain ⟨g0, g1, g2, g3, g4⟩ := id GG
  go_upto_region 4 with (go_at_call 46; (with_reducible refine (cC _).mono ?_); rintro e w1 ⟨rfl, hb1⟩)
  replace GG := GG.keep hb1 (by omega)
  replace T1 := T1.keep hb1 l1
  replace hb0 := bt hb0 hb1
  replace l1 := Nat.lt_of_lt_of_le l1 hb1.size
  clear g0 g1 g2 g3 g4 hb1 w0 cC
  obtain ⟨g0, g1, g2, g3, g4⟩ := id GG
  go_upto_region 5 with (go_at_call 132; (with_reducible refine (HP.out _ hb0).mono ?_); rintro e w3 ⟨⟨t, Y, q, y, ec, het, hPC⟩, hb3⟩; rw [TV.v] at het; subst het; have HPC := Lib.hid hPC; clear hPC)
  have hx3 := bl w3 (.cells #[.slice t.A t.es.length t.c] 91)
  have T3 := c1_new w3 (.slice t.A t.es.length t.c) 91
  have b13 := bt hb3 hx3
  replace GG := GG.keep b13 (by omega)
  have P := T1.keep b13 l1
  have hbL := bt hb0 b13
  have l3 : w1.heap.size ≤ w3.heap.size := hb3.size
  have l4 : w3.heap.size < (w3.alloc (.cells #[.slice t.A t.es.length t.c] 91)).heap.size := by simp
  obtain ⟨gT, hgT⟩ : ∃ g, g = w3.heap.size := ⟨_, rfl⟩
  have HPC2 := Lib.hid (show ec = 0 → t.Own (w3.alloc (.cells #[.slice t.A t.es.length t.c] 91)) (w.heap.size + 2) from fun h => by
    rcases HPC.out with h9 | h9
    · exact (TV.Own.below h9.2.2.2.2.2 hx3).less (by omega)
    · omega)
  rw [← hgT] at T3 l4 l3 ⊢
  clear hgT hx3 b13 hb3 hb0 T1 g0 g1 g2 g3 g4 HP
  generalize w3.alloc (.cells #[.slice t.A t.es.length t.c] 91) = w4 at *
  obtain ⟨g0, g1, g2, g3, g4⟩ := id GG
  have p0 := P.c0
  have f0 := P.f0
  have t0 := T3.c0
  by_cases he : ec = 0
  case neg =>
    have q1 : (ec != 0) = true := bne_iff_ne.2 he
    obtain rfl : cc = false := by
      cases cc with
      | false => rfl
      | true =>
        obtain ⟨k1, k2, -⟩ := HT.out.1 rfl
        rcases HPC.out with h9 | ⟨-, h9 | ⟨k, hk, h9⟩⟩
        · exact absurd h9.1 he
        · rw [HN.out] at k1; omega
        · have := k2 k (by omega); omega
    clear he HT HPC HPC2 HCK
    go_wp2_with fail
    have k1 := P.set (.slice none 0 0)
    have hb5 := hbL.setCell (p := ⟨w.heap.size + 1, 0, none⟩) (show w.heap.size ≤ w.heap.size + 1 by omega) (.slice none 0 0)
    exact bodyPost_ret (v := .tuple #[.agg #[.slice none 0 0], .int .i64 4]) (by simp [results, Tryz.results131, go_sem, k1.c0]) rfl ⟨⟨noTV, rfl, rfl, noTV_own _ _⟩, hb5⟩
  obtain ⟨h9, k3, k4, k5, k6, -⟩ | ⟨h9, -⟩ := HPC.out
  case inr => omega
  subst h9
  have own := HPC2.out rfl
  have HQ := Lib.hid k5
  by_cases hq : q = 0
  case neg =>
    have i1 : (0 : Int) < (q : Int) := by omega
    obtain rfl : cc = false := by
      cases cc with
      | false => rfl
      | true =>
        obtain ⟨k1, -, -⟩ := HT.out.1 rfl
        rw [HN.out] at k1
        omega
    clear HT HPC HPC2 HCK hq he k4 k5 k6
    go_wp2_with fail
    have k1 := P.set (.slice none 0 0)
    have hb5 := hbL.setCell (p := ⟨w.heap.size + 1, 0, none⟩) (show w.heap.size ≤ w.heap.size + 1 by omega) (.slice none 0 0)
    exact bodyPost_ret (v := .tuple #[.agg #[.slice none 0 0], .int .i64 4]) (by simp [results, Tryz.results131, go_sem, k1.c0]) rfl ⟨⟨noTV, rfl, rfl, noTV_own _ _⟩, hb5⟩
  have hnn : n = (D + 1) * 9 := by omega
  have HE := Lib.hid k6
  have hlen : t.es.length ≤ 1048576 := by rw [k6, entsN_length]; omega
  have hg : cc = true ↔ Good D t.es := by
    rw [HT.out, k6]
    constructor
    · exact fun h => by have := h.2.2; rwa [Int.toNat_natCast] at this
    · exact fun h => ⟨by rw [HN.out]; omega, fun k hk => k4 k (by omega), by rw [Int.toNat_natCast]; exact h⟩
  have HCG := Lib.hid (HCK.out cc t w4 (TV.Own.inn own) hlen hg)
  subst hq
  clear HT HPC HPC2 HCK hnn hg hlen k6 k5 he
  cases cc
  case false =>
    go_wp2_with (go_at_call 133; (with_reducible refine HCG.out.mono ?_); rintro e w5 ⟨rfl, hb5⟩; replace hbL := bt hbL hb5; replace P := P.keep hb5 (by omega); clear p0 f0; have p0 := P.c0; have f0 := P.f0)
    have k1 := P.set (.slice none 0 0)
    have hb5 := hbL.setCell (p := ⟨w.heap.size + 1, 0, none⟩) (show w.heap.size ≤ w.heap.size + 1 by omega) (.slice none 0 0)
    exact bodyPost_ret (v := .tuple #[.agg #[.slice none 0 0], .int .i64 4]) (by simp [results, Tryz.results131, go_sem, k1.c0]) rfl ⟨⟨noTV, rfl, rfl, noTV_own _ _⟩, hb5⟩
  case true =>
    have HO5 := Lib.hid own
    go_wp2_with (go_at_call 133; (with_reducible refine HCG.out.mono ?_); rintro e w5 ⟨rfl, hb5⟩; replace hbL := bt hbL hb5; replace P := P.keep hb5 (by omega); have own5 := TV.Own.below HO5.out hb5; have T5 := T3.keep hb5 l4; clear p0 f0 t0; have p0 := P.c0; have f0 := P.f0; have t0 := T5.c0)
    have k1 := P.set (.slice t.A t.es.length t.c)
    have hb6 := hbL.setCell (p := ⟨w.heap.size + 1, 0, none⟩) (show w.heap.size ≤ w.heap.size + 1 by omega) (.slice t.A t.es.length t.c)
    have own6 := OwnE.less (base' := w.heap.size) (OwnE.cell_set (o := 0) own5 (show w.heap.size + 1 < w.heap.size + 2 by omega) (.slice t.A t.es.length t.c)) (by omega)
    exact bodyPost_ret (v := .tuple #[.agg #[.slice t.A t.es.length t.c], .int .i64 0]) (by simp [results, Tryz.results131, go_sem, k1.c0]) rfl ⟨⟨t, rfl, HE.out, own6⟩, hb6⟩
end Go.Proofs.YtbfdpibjicjagaaGreatDoor.tbl
