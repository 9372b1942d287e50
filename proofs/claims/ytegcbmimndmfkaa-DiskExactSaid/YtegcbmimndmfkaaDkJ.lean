/-
  Package disk: contents (a range over slices.Backward). Conditions: a valid disk's sizes, a cell's address.
-/
import Derived.Test.YtegcbmimndmfkaaDkI
import Derived.Test.YtegcbmimndmfkaaDkG
namespace Go.Proofs.Ytegcbmimndmfkaa.dsk
open Go.RowKit Go.Shelf Go.Lib
open Go.Proofs.Ytegcbmimndmfkaa.pck (clone_any)
attribute [local go_sem] Oper.semAt_some

theorem lastW_none : ∀ (ws : List Wri) (a : Int), (∀ x ∈ ws, x.addr ≠ a) → lastW ws a = none
  | [], _, _ => rfl
  | x :: ws, a, h => by
    rw [lastW, lastW_none ws a (fun y hy => h y (List.mem_cons_of_mem _ hy))]
    exact if_neg (h x List.mem_cons_self)
theorem lastW_at : ∀ (ws : List Wri) (a : Int) (i : Nat) (x : Wri), ws[i]? = some x → x.addr = a → (∀ j, i < j → ∀ y, ws[j]? = some y → y.addr ≠ a) → lastW ws a = some x.bs
  | [], _, _, _, h, _, _ => by simp at h
  | y :: ws, a, 0, x, h, hx, hn => by
    obtain rfl : y = x := by simpa using h
    rw [lastW, lastW_none ws a (fun z hz => by
      obtain ⟨j, hj⟩ := List.getElem?_of_mem hz
      exact hn (j + 1) (by omega) z (by simpa using hj))]
    exact if_pos hx
  | y :: ws, a, i + 1, x, h, hx, hn => by
    rw [lastW, lastW_at ws a i x (by simpa using h) hx (fun j hj z hz => hn (j + 1) (by omega) z (by simpa using hz))]
theorem rin_kept {W W' : World} {r : Row} {row : Option Nat} (h : RIn W W.heap.size r) (hg : W.grownBy W' row) (hr : ∀ k, row = some k → ∃ o : Obj, W.heap[k]? = some o ∧ o.isCells = false) : RIn W' W'.heap.size r := by
  refine ⟨fun hl => ?_, h.2⟩
  obtain ⟨b, off, e, hb, hc⟩ := h.1 hl
  exact ⟨b, off, e, Nat.lt_of_lt_of_le hb hg.size, fun j hj => cell_kept (hc j hj) hg hr⟩

theorem al5 {w : World} (a b c d e : Obj) : (((((w.alloc a).alloc b).alloc c).alloc d).alloc e).heap[w.heap.size]? = some a ∧ (((((w.alloc a).alloc b).alloc c).alloc d).alloc e).heap[w.heap.size + 1]? = some b ∧
    (((((w.alloc a).alloc b).alloc c).alloc d).alloc e).heap[w.heap.size + 1 + 1]? = some c ∧ (((((w.alloc a).alloc b).alloc c).alloc d).alloc e).heap[w.heap.size + 1 + 1 + 1]? = some d ∧ (((((w.alloc a).alloc b).alloc c).alloc d).alloc e).heap[w.heap.size + 1 + 1 + 1 + 1]? = some e := by
  have go : ∀ (W : World) (o : Obj) (k : Nat) (x : Obj), W.heap[k]? = some x → (W.alloc o).heap[k]? = some x := fun W o k x h => ((bl W o).block k (lt_of_heap h)).trans h
  have h0 := heap_alloc_new w a
  have h1 := heap_alloc_new (w.alloc a) b
  have h2 := heap_alloc_new ((w.alloc a).alloc b) c
  have h3 := heap_alloc_new (((w.alloc a).alloc b).alloc c) d
  have h4 := heap_alloc_new ((((w.alloc a).alloc b).alloc c).alloc d) e
  simp only [World.size_alloc] at h1 h2 h3 h4
  exact ⟨go _ _ _ _ (go _ _ _ _ (go _ _ _ _ (go _ _ _ _ h0))), go _ _ _ _ (go _ _ _ _ (go _ _ _ _ h1)), go _ _ _ _ (go _ _ _ _ h2), go _ _ _ _ h3, h4⟩
theorem keeps_below {B : Nat} {W W' : World} (h : Below W.heap.size W W') : KeepsFrom B W W' := ⟨h.size, fun k _ _ hk _ => (h.block k (lt_of_heap hk)).trans hk⟩
theorem two_at {W : World} {g : Nat} {a b : Value} {t : TypeId} (h : W.heap[g]? = some (.cells #[a, b] t)) : W.cell? ⟨g, 0, none⟩ = some a ∧ W.cell? ⟨g, 1, none⟩ = some b := by
  refine ⟨?_, ?_⟩
  · rw [cell_of_row _ _ 0 _ _ _ h]; rfl
  · rw [cell_of_row _ _ 1 _ _ _ h]; rfl
theorem heap_kept {W W' : World} {row : Option Nat} {b : Nat} {cs : Array Value} {t : TypeId} {f : Nat × Nat} (h : W.heap[b]? = some (.cells cs t f)) (hg : W.grownBy W' row) (hr : ∀ k, row = some k → ∃ o : Obj, W.heap[k]? = some o ∧ o.isCells = false) : W'.heap[b]? = some (.cells cs t f) :=
  (hg.block b (lt_of_heap h) (fun e => by obtain ⟨o, ho, hc⟩ := hr b e.symm; rw [h] at ho; cases ho; cases hc)).trans h

theorem boxed_kept {W W' : World} {row : Option Nat} {b : Nat} {v : Value} {t : TypeId} (h : Boxed W b t v) (hg : W.grownBy W' row) (hr : ∀ k, row = some k → ∃ o : Obj, W.heap[k]? = some o ∧ o.isCells = false) : Boxed W' b t v := heap_kept h hg hr

set_option maxRecDepth 100000 in
set_option maxHeartbeats 4000000 in
theorem contents_in (d : DV) (a : Int) (w : World) (hd : d.In w w.heap.size) (hf : d.Fit) (h0 : 0 ≤ a) (h1 : a < d.cs.length) :
    CallsIn Fence.wide 9 Try.prog 34 #[d.v, .int .i64 a] w fun e w' => (∃ r : Row, e = .returned (.tuple #[r.v, .int .i64 (content d.d a).2]) ∧ r.l = (content d.d a).1 ∧ RIn w' w'.heap.size r) ∧ Below w.heap.size w w' := by
  have hro : Fence.wide.round = none := rfl
  have hfn : ∀ k, Fence.wide.fn k := fun _ => trivial
  have hm := hf.n.2
  unfold DV.v
  refine callsIn_of_wp_marks Try.func34 rfl (hfn _) ?_ hro
  simp only [Try.ntmps34, List.size_toArray, List.length_cons, List.length_nil, Nat.reduceAdd, Nat.reduceSub, Array.replicate_succ, Array.replicate_zero, List.push_toArray, List.append_toArray, List.nil_append, List.cons_append]
  gi_wp2_with (gi_at_call 45; refine (back_in Fence.wide 8 (hfn _) hro _ _ _ _).mono ?_; rintro e w' ⟨rfl, rfl⟩)
  obtain ⟨a0, a1, a2, a3, a4⟩ := @al5 w (.cells #[.slice d.CA d.cs.length d.cc, .slice d.WA d.ws.length d.wc, .int .i64 d.reqs, .int .i64 d.left] 25) (.cells #[.int .i64 a] 3) (.cells #[.slice none 0 0] 26) (.cells #[.int .i64 0] 29) (.cells #[.slice d.WA d.ws.length d.wc] 23)
  have hB0 := kal (kal (kal (kal (bl w (.cells #[.slice d.CA d.cs.length d.cc, .slice d.WA d.ws.length d.wc, .int .i64 d.reqs, .int .i64 d.left] 25)) (.cells #[.int .i64 a] 3)) (.cells #[.slice none 0 0] 26)) (.cells #[.int .i64 0] 29)) (.cells #[.slice d.WA d.ws.length d.wc] 23)
  have hsz : (((((w.alloc (.cells #[.slice d.CA d.cs.length d.cc, .slice d.WA d.ws.length d.wc, .int .i64 d.reqs, .int .i64 d.left] 25)).alloc (.cells #[.int .i64 a] 3)).alloc (.cells #[.slice none 0 0] 26)).alloc (.cells #[.int .i64 0] 29)).alloc (.cells #[.slice d.WA d.ws.length d.wc] 23)).heap.size = w.heap.size + 5 := by simp
  generalize ((((w.alloc (.cells #[.slice d.CA d.cs.length d.cc, .slice d.WA d.ws.length d.wc, .int .i64 d.reqs, .int .i64 d.left] 25)).alloc (.cells #[.int .i64 a] 3)).alloc (.cells #[.slice none 0 0] 26)).alloc (.cells #[.int .i64 0] 29)).alloc (.cells #[.slice d.WA d.ws.length d.wc] 23) = W0 at *
  have bA : Boxed W0 (w.heap.size + 1) 3 (.int .i64 a) := a1
  have bR : Boxed W0 (w.heap.size + 1 + 1) 26 (.slice none 0 0) := a2
  have bE : Boxed W0 (w.heap.size + 1 + 1 + 1) 29 (.int .i64 0) := a3
  have bS : Boxed W0 (w.heap.size + 1 + 1 + 1 + 1) 23 (.slice d.WA d.ws.length d.wc) := a4
  have P0 := four_at a0
  have hd0 := hd.next hB0
  clear a0 a1 a2 a3 a4
  have cC := fun (W : World) (r : Row) (hr : RIn W W.heap.size r) (hs : r.l.length ≤ 1048576) => clone_any r.A r.c _ r.l.length r.l W rfl hr.1 (by omega)
  refine wpIn_rangeFunc_ownH hro (n := 9) (by omega) (gf := 48) (lb := #[.pointer (some ⟨w.heap.size + 1 + 1 + 1 + 1, 0, none⟩)]) rfl (hfn _) (enters_of Try.func48 (by kernel_rfl) rfl)
    (back_stops Fence.wide 8 (hfn _) hro (by omega) (w.heap.size + 1 + 1 + 1 + 1) d.wc d.WA d.ws hm W0 (by omega) bS.cell hd0.hw hd0.wi) belowK_t (belowK_b (Nat.le_refl _)) (Below.refl _ _) (fun _ => rfl)
    (fun pre W => (∀ p ∈ pre, (d.ws[p.val]'p.2).addr ≠ a) ∧ Below W0.heap.size W0 W)
    (fun c pre W => (c = .ret ∧ ∃ ini last r, pre = ini ++ [last] ∧ (∀ p ∈ ini, (d.ws[p.val]'p.2).addr ≠ a) ∧ (d.ws[last.val]'last.2).addr = a ∧ r.l = (d.ws[last.val]'last.2).b.l ∧ Boxed W (w.heap.size + 1 + 1) 26 r.v ∧ Boxed W (w.heap.size + 1 + 1 + 1) 29 (.int .i64 0) ∧ RIn W W.heap.size r) ∧ Below w.heap.size w W)
    (OwnFrom.and (ownFrom_pure _ _) (ownFrom_below (Nat.le_refl _) (Nat.le_refl _)))
    (fun c => OwnFrom.and (_root_.Go.Own.from (fun s A B row hs hg hr => by
      obtain ⟨hc, ini, last, r, e1, e2, e3, e4, e5, e6, e7⟩ := hs
      exact ⟨hc, ini, last, r, e1, e2, e3, e4, heap_kept e5 hg hr, heap_kept e6 hg hr, rin_kept e7 hg hr⟩) _) (ownFrom_below (Nat.le_refl _) (by omega)))
    ⟨by simp, Below.refl _ _⟩
    (fun x a' W => ∃ Bx, W0.heap.size ≤ Bx ∧ W.heap[Bx]? = some (.cells #[.int .i64 (d.ws[x.val]'x.2).addr, .slice (d.ws[x.val]'x.2).b.A (d.ws[x.val]'x.2).b.l.length (d.ws[x.val]'x.2).b.c] 72) ∧
      a' = { tmps := #[.agg #[.slice d.CA d.cs.length d.cc, .slice d.WA d.ws.length d.wc, .int .i64 d.reqs, .int .i64 d.left], .int .i64 a, .pointer (some ⟨w.heap.size, 0, none⟩), .pointer (some ⟨w.heap.size + 1, 0, none⟩), .pointer (some ⟨w.heap.size + 1 + 1, 0, none⟩), .pointer (some ⟨w.heap.size + 1 + 1 + 1, 0, none⟩), undef, .pointer (some ⟨Bx, 0, none⟩), .pointer (some ⟨w.heap.size, 1, none⟩), .slice d.WA d.ws.length d.wc, .func (.func 48) #[] #[.pointer (some ⟨w.heap.size + 1 + 1 + 1 + 1, 0, none⟩)], .int .i64 ((x.val : Nat) : Int), .agg #[.int .i64 (d.ws[x.val]'x.2).addr, .slice (d.ws[x.val]'x.2).b.A (d.ws[x.val]'x.2).b.l.length (d.ws[x.val]'x.2).b.c], undef, undef, undef, undef, undef, undef, undef, undef, undef, undef, undef, undef, undef, undef, undef, undef, undef, undef, undef, undef, undef], defers := [] })
    (fun x a' _ X Y row hs hg hr => by obtain ⟨Bx, h1, h2, h3⟩ := hs; exact ⟨Bx, h1, heap_kept h2 hg (fun r e => (hr r e).2), h3⟩)
    ?assign ?body ?done ?stop
  case assign =>
    rintro l pre x W K ⟨hp, hB⟩ hK
    unfold encW
    gi_wp2
    exact hK _ _ ((KeepsOthers.alloc _ _).from _) ((Below.refl _ W).alloc hB.size _) ⟨hp, hB.alloc hB.size _⟩ ⟨W.heap.size, hB.size, heap_alloc_new W _, rfl⟩
  case body =>
    rintro l pre x a' W hl ⟨q, hq⟩ ⟨hp, hB⟩ ⟨Bx, hBx, hX, rfl⟩ hlt
    have hum := ((hd0.wi _ (List.getElem_mem x.2)).below hB).more hB.size
    have m5 := hf.t _ (List.getElem_mem x.2)
    have cA := ks hB (by omega) bA.cell
    obtain ⟨x0, x1⟩ := two_at hX
    have HN : Hid ((d.ws[x.val]'x.2).addr ≠ a → ∀ p ∈ pre ++ [x], (d.ws[p.val]'p.2).addr ≠ a) := fun h p hp' => (List.mem_append.1 hp').elim (hp p) (fun e => by obtain rfl := List.mem_singleton.1 e; exact h)
    have HP : Hid ((d.ws[x.val]'x.2).addr = a → ∃ ini last, pre ++ [x] = ini ++ [last] ∧ (∀ p ∈ ini, (d.ws[p.val]'p.2).addr ≠ a) ∧ (d.ws[last.val]'last.2).addr = a ∧ (d.ws[x.val]'x.2).b.l = (d.ws[last.val]'last.2).b.l) := fun h => ⟨pre, x, rfl, hp, h, rfl⟩
    generalize (d.ws[x.val]'x.2) = u at *
    clear hp hX
    by_cases ha : u.addr = a
    · have n1 : (u.addr == a) = true := beq_iff_eq.2 ha
      have HP2 := Lib.hid (HP.out ha)
      have hR1 : Boxed W (w.heap.size + 1 + 1) 26 (.slice none 0 0) := (hB.block _ (by omega)).trans bR
      have hE1 : Boxed W (w.heap.size + 1 + 1 + 1) 29 (.int .i64 0) := (hB.block _ (by omega)).trans bE
      have hW := hB.size
      clear HN HP
      gi_wp2_with (gi_at_call 35; refine (CallsIn.inRound l (callsIn_wide.2 (cC W u.b hum m5))).mono ?_; rintro e w2 ⟨⟨v, rfl, ho⟩, hb2⟩; obtain ⟨Xb, cb, rfl, -, -, -, -⟩ := id ho.form; have hR2 : Boxed w2 (w.heap.size + 1 + 1) 26 (.slice none 0 0) := (hb2.block _ (by omega)).trans hR1; have hE2 : Boxed w2 (w.heap.size + 1 + 1 + 1) 29 (.int .i64 0) := (hb2.block _ (by omega)).trans hE1; have k0 := hR2.cell; have k1 := hR2.frozen; have k2 := hE2.cell; have k3 := hE2.frozen)
      obtain ⟨ini, last, e1, e2, e3, e4⟩ := HP2.out
      have R1 := rin_set (own_rin (r := ⟨Xb, cb, u.b.l⟩) ho) k0 (slice_no8 _ _ _) (.slice Xb u.b.l.length cb)
      have R2 := rin_set R1 ((hE2.other (show w.heap.size + 1 + 1 + 1 ≠ w.heap.size + 1 + 1 by omega) (.slice Xb u.b.l.length cb)).cell) (int_no8 _) (.int .i64 0)
      exact ⟨(keeps_below hb2).trans (((KeepsOthers.setCell _ _ _).trans (KeepsOthers.setCell _ _ _)).from _),
        ⟨rfl, ini, last, ⟨Xb, cb, u.b.l⟩, e1, e2, e3, e4, (hR2.set _).other (by omega) _, (hE2.other (by omega) _).set _, by simpa using R2⟩,
        ((bt (bt hB0 hB) hb2).setCell (show w.heap.size ≤ w.heap.size + 1 + 1 by omega) _).setCell (show w.heap.size ≤ w.heap.size + 1 + 1 + 1 by omega) _⟩
    · have n1 : (u.addr == a) = false := beq_eq_false_iff_ne.2 ha
      have HN2 := Lib.hid (HN.out ha)
      clear HN HP
      gi_wp2
      exact ⟨KeepsFrom.refl _ _, Below.refl _ _, HN2.out, hB⟩
  case done =>
    rintro D ys W hD rfl ⟨hp, hB⟩ hK
    obtain ⟨k, hk⟩ : ∃ k : Nat, a = k := ⟨a.toNat, by omega⟩
    have hL : lastW (wds d.ws) a = none := lastW_none _ _ fun x hx => by
      obtain ⟨r, hr, rfl⟩ := List.mem_map.1 hx
      obtain ⟨i, hi, rfl⟩ := List.mem_iff_getElem.1 hr
      exact hp ⟨i, hi⟩ (by simp [down])
    have hdW := hd0.below hB
    have hW := hB.size
    obtain ⟨c0, c1, c2, c3, -, -, -, -⟩ := P0.keep hB (by omega)
    have cA := ks hB (by omega) bA.cell
    have hR1 : Boxed W (w.heap.size + 1 + 1) 26 (.slice none 0 0) := (hB.block _ (by omega)).trans bR
    have hE1 : Boxed W (w.heap.size + 1 + 1 + 1) 29 (.int .i64 0) := (hB.block _ (by omega)).trans bE
    obtain ⟨b1, off, u, e3, hb1, r0, r1, r2, m1, -, hu, -, eu⟩ := cell_at hdW.hc hdW.ci (show k < d.cs.length by omega)
    have m5 := (hf.s u hu).1
    have hC : Hid (content d.d a = if u.st = 0 then (u.b.l, 0) else ([], 6)) := by
      show content d.d a = _
      unfold content
      rw [show d.d.cache = wds d.ws from rfl, hL, show d.d.cells = cds d.cs from rfl, show a.toNat = k by omega, eu]
      rfl
    have i1 : (k : Int) < (d.cs.length : Int) := by omega
    have hB2 := bt hB0 hB
    rw [hk] at cA ⊢
    rw [e3] at c0
    have hRu := m1.more hW
    clear hdW hp hL eu hd hd0 P0 bA bR bE bS
    by_cases hs : u.st = 0
    · rw [hs] at r0
      have HC : Hid (content d.d a = (u.b.l, 0)) := by have := hC.out; rwa [if_pos hs] at this
      clear hC hs
      gi_wp2_with (gi_at_call 35; refine (callsIn_wide.2 (cC W u.b hRu m5)).mono ?_; rintro e w2 ⟨⟨v, rfl, ho⟩, hb2⟩; obtain ⟨Xb, cb, rfl, -, -, -, -⟩ := id ho.form; have hR2 : Boxed w2 (w.heap.size + 1 + 1) 26 (.slice none 0 0) := (hb2.block _ (by omega)).trans hR1; have hE2 : Boxed w2 (w.heap.size + 1 + 1 + 1) 29 (.int .i64 0) := (hb2.block _ (by omega)).trans hE1; have k0 := hR2.cell; have k1 := hR2.frozen; have k2 := hE2.cell; have k3 := hE2.frozen)
      have hK2 : w2.heap[D]? = some (.deferred (some [])) := (hb2.block _ (lt_of_heap hK)).trans hK
      have R1 := rin_set (own_rin (r := ⟨Xb, cb, u.b.l⟩) ho) k0 (slice_no8 _ _ _) (.slice Xb u.b.l.length cb)
      have R2 := rin_set R1 ((hE2.other (show w.heap.size + 1 + 1 + 1 ≠ w.heap.size + 1 + 1 by omega) (.slice Xb u.b.l.length cb)).cell) (int_no8 _) (.int .i64 0)
      have b5 := ((hR2.set (.slice Xb u.b.l.length cb)).other (show w.heap.size + 1 + 1 ≠ w.heap.size + 1 + 1 + 1 by omega) (.int .i64 0))
      have b6 := (hE2.other (show w.heap.size + 1 + 1 + 1 ≠ w.heap.size + 1 + 1 by omega) (.slice Xb u.b.l.length cb)).set (.int .i64 0)
      have hB3 := ((bt hB2 hb2).setCell (show w.heap.size ≤ w.heap.size + 1 + 1 by omega) (.slice Xb u.b.l.length cb) (p := ⟨w.heap.size + 1 + 1, 0, none⟩)).setCell (show w.heap.size ≤ w.heap.size + 1 + 1 + 1 by omega) (.int .i64 0) (p := ⟨w.heap.size + 1 + 1 + 1, 0, none⟩)
      have hK' := ((KeepsOthers.setCell w2 ⟨w.heap.size + 1 + 1, 0, none⟩ (.slice Xb u.b.l.length cb)).trans (KeepsOthers.setCell _ ⟨w.heap.size + 1 + 1 + 1, 0, none⟩ (.int .i64 0))).same D _ hK2 rfl
      replace R2 : RIn ((w2.setCell ⟨w.heap.size + 1 + 1, 0, none⟩ (.slice Xb u.b.l.length cb)).setCell ⟨w.heap.size + 1 + 1 + 1, 0, none⟩ (.int .i64 0)) ((w2.setCell ⟨w.heap.size + 1 + 1, 0, none⟩ (.slice Xb u.b.l.length cb)).setCell ⟨w.heap.size + 1 + 1 + 1, 0, none⟩ (.int .i64 0)).heap.size ⟨Xb, cb, u.b.l⟩ := by simpa using R2
      generalize (w2.setCell ⟨w.heap.size + 1 + 1, 0, none⟩ (.slice Xb u.b.l.length cb)).setCell ⟨w.heap.size + 1 + 1 + 1, 0, none⟩ (.int .i64 0) = w3 at *
      refine ⟨by simp, .inl ⟨_, _, rfl, run_takeDeferred hK', ?_⟩⟩
      have q0 := (boxed_kept b5 (grownBy_putObj' w3 D (.deferred none)) (fun r e => by cases e; exact ⟨_, hK', rfl⟩)).cell
      have q1 := (boxed_kept b6 (grownBy_putObj' w3 D (.deferred none)) (fun r e => by cases e; exact ⟨_, hK', rfl⟩)).cell
      refine ⟨.tuple #[.slice Xb u.b.l.length cb, .int .i64 0], ?_, ⟨⟨Xb, cb, u.b.l⟩, by rw [HC.out]; rfl, by rw [HC.out], rin_kept R2 (grownBy_putObj' w3 D (.deferred none)) (fun r e => by cases e; exact ⟨_, hK', rfl⟩)⟩, hB3.trans (belowK_b (w := w) (Nat.le_refl _) w3 D _ _ (by omega) hK' rfl rfl)⟩
      simp [results, Try.f34, go_sem, q0, q1]
    · have n1 : (u.st != 0) = true := bne_iff_ne.2 hs
      have HC : Hid (content d.d a = ([], 6)) := by have := hC.out; rwa [if_neg hs] at this
      have k0 := hR1.cell
      have k1 := hR1.frozen
      have k2 := hE1.cell
      have k3 := hE1.frozen
      clear hC cC
      gi_wp2
      have b5 := ((hR1.set (.slice none 0 0)).other (show w.heap.size + 1 + 1 ≠ w.heap.size + 1 + 1 + 1 by omega) (.int .i64 6))
      have b6 := (hE1.other (show w.heap.size + 1 + 1 + 1 ≠ w.heap.size + 1 + 1 by omega) (.slice none 0 0)).set (.int .i64 6)
      have hB3 := (hB2.setCell (show w.heap.size ≤ w.heap.size + 1 + 1 by omega) (.slice none 0 0) (p := ⟨w.heap.size + 1 + 1, 0, none⟩)).setCell (show w.heap.size ≤ w.heap.size + 1 + 1 + 1 by omega) (.int .i64 6) (p := ⟨w.heap.size + 1 + 1 + 1, 0, none⟩)
      have hK' := ((KeepsOthers.setCell W ⟨w.heap.size + 1 + 1, 0, none⟩ (.slice none 0 0)).trans (KeepsOthers.setCell _ ⟨w.heap.size + 1 + 1 + 1, 0, none⟩ (.int .i64 6))).same D _ hK rfl
      generalize (W.setCell ⟨w.heap.size + 1 + 1, 0, none⟩ (.slice none 0 0)).setCell ⟨w.heap.size + 1 + 1 + 1, 0, none⟩ (.int .i64 6) = w3 at *
      refine ⟨by simp, .inl ⟨_, _, rfl, run_takeDeferred hK', ?_⟩⟩
      have q0 := (boxed_kept b5 (grownBy_putObj' w3 D (.deferred none)) (fun r e => by cases e; exact ⟨_, hK', rfl⟩)).cell
      have q1 := (boxed_kept b6 (grownBy_putObj' w3 D (.deferred none)) (fun r e => by cases e; exact ⟨_, hK', rfl⟩)).cell
      refine ⟨.tuple #[.slice none 0 0, .int .i64 6], ?_, ⟨zrow, by rw [HC.out]; rfl, by rw [HC.out]; rfl, zrow_in _ _⟩, hB3.trans (belowK_b (w := w) (Nat.le_refl _) w3 D _ _ (by omega) hK' rfl rfl)⟩
      simp [results, Try.f34, go_sem, q0, q1]
  case stop =>
    rintro D c pre W hD ⟨k, hk, rfl⟩ ⟨⟨rfl, ini, last, r, e1, e2, e3, e4, hR2, hE2, R2⟩, hB⟩ hK
    obtain ⟨k', rfl⟩ : ∃ k', k = k' + 1 := by
      cases k with
      | zero => simp at e1
      | succ k' => exact ⟨k', rfl⟩
    have hk1 : k' < d.ws.length := by omega
    have hk2 : d.ws.length - 1 - k' < d.ws.length := by omega
    rw [take_next (down_get hk1)] at e1
    obtain ⟨e5, e6⟩ := List.append_inj' e1 rfl
    obtain rfl : (⟨d.ws.length - 1 - k', hk2⟩ : Fin d.ws.length) = last := by simpa using e6
    have hL : lastW (wds d.ws) a = some r.l := by
      have e7 : (wds d.ws)[d.ws.length - 1 - k']? = some (d.ws[d.ws.length - 1 - k']'hk2).d := by unfold wds; rw [List.getElem?_map, List.getElem?_eq_getElem hk2]; rfl
      rw [lastW_at _ a _ _ e7 e3 (fun j hj y hy => ?_), e4]
      · rfl
      · obtain ⟨hjl, rfl⟩ := List.getElem?_eq_some_iff.1 hy
        rw [wds_length] at hjl
        have := e2 ⟨j, hjl⟩ (by
          rw [← e5]
          refine List.mem_iff_getElem?.2 ⟨d.ws.length - 1 - j, ?_⟩
          rw [List.getElem?_take_of_lt (by omega), down_get (by omega)]
          congr 1
          exact Fin.ext (by show d.ws.length - 1 - (d.ws.length - 1 - j) = j; omega))
        have e8 : (wds d.ws)[j]'(by rw [wds_length]; exact hjl) = (d.ws[j]'hjl).d := by simp [wds]
        rw [e8]
        exact this
    have HC : Hid (content d.d a = (r.l, 0)) := by
      show content d.d a = (r.l, 0)
      unfold content
      rw [show d.d.cache = wds d.ws from rfl, hL]
    clear hL e1 e2 e3 e4 e5 e6
    gi_wp2
    refine ⟨by simp, .inl ⟨_, _, rfl, run_takeDeferred hK, ?_⟩⟩
    have q0 := (boxed_kept hR2 (grownBy_putObj' W D (.deferred none)) (fun r e => by cases e; exact ⟨_, hK, rfl⟩)).cell
    have q1 := (boxed_kept hE2 (grownBy_putObj' W D (.deferred none)) (fun r e => by cases e; exact ⟨_, hK, rfl⟩)).cell
    refine ⟨.tuple #[r.v, .int .i64 0], ?_, ⟨r, by rw [HC.out], by rw [HC.out], rin_kept R2 (grownBy_putObj' W D (.deferred none)) (fun r e => by cases e; exact ⟨_, hK, rfl⟩)⟩, hB.trans (belowK_b (w := w) (Nat.le_refl _) W D _ _ (by omega) hK rfl rfl)⟩
    simp [results, Try.f34, go_sem, q0, q1]
theorem contents_at (d : DV) (a : Int) (w : World) (hd : d.In w w.heap.size) (hf : d.Fit) (h0 : 0 ≤ a) (h1 : a < d.cs.length) :
    Calls Try.prog 34 #[d.v, .int .i64 a] w fun e w' => (∃ r : Row, e = .returned (.tuple #[r.v, .int .i64 (content d.d a).2]) ∧ r.l = (content d.d a).1 ∧ RIn w' w'.heap.size r) ∧ Below w.heap.size w w' := callsIn_wide.1 (contents_in d a w hd hf h0 h1)
end Go.Proofs.Ytegcbmimndmfkaa.dsk
