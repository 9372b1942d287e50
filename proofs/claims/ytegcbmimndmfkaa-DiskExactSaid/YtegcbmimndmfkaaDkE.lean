/-
  Package disk: clone. Conditions: rows and byte strings shorter than 2^20.
-/
import Derived.Test.YtegcbmimndmfkaaDkP
import Derived.Test.YtegcbmimndmfkaaGPack
import Derived.Test.YtegcbmimndmfkaaGDkA
import Derived.Test.YtegcbmimndmfkaaTail
import Derived.Deep.RegionHeld3
import Derived.Deep.CutRange
namespace Go.Proofs.Ytegcbmimndmfkaa.dsk
open Go.RowKit Go.Lib
open Go.Proofs.Ytegcbmimndmfkaa.pck (clone_any)

theorem al3_0 {w : World} {s : Nat} (h : w.heap.size = s) (a b c : Obj) : (((w.alloc a).alloc b).alloc c).drew.heap[s]? = some a := by
  subst h
  exact (heap_alloc_old _ _ (by simp; omega)).trans ((heap_alloc_old _ _ (by simp)).trans (heap_alloc_new w a))
theorem al3_1 {w : World} {s : Nat} (h : w.heap.size = s) (a b c : Obj) : (((w.alloc a).alloc b).alloc c).drew.heap[s + 1]? = some b := by
  subst h
  have := heap_alloc_new (w.alloc a) b
  rw [World.size_alloc] at this
  exact (heap_alloc_old _ _ (by simp)).trans this
theorem al3_2 {w : World} {s : Nat} (h : w.heap.size = s) (a b c : Obj) : (((w.alloc a).alloc b).alloc c).drew.heap[s + 1 + 1]? = some c := by
  subst h
  have := heap_alloc_new ((w.alloc a).alloc b) c
  rw [World.size_alloc, World.size_alloc] at this
  exact this
theorem lt_of_heap {w : World} {g : Nat} {o : Obj} (h : w.heap[g]? = some o) : g < w.heap.size := by
  rcases Nat.lt_or_ge g w.heap.size with k | k
  · exact k
  · rw [Array.getElem?_eq_none k] at h; cases h
theorem four_at {W : World} {g : Nat} {a b c d : Value} {t : TypeId} (h : W.heap[g]? = some (.cells #[a, b, c, d] t)) : Four W g a b c d := by
  refine ⟨?_, ?_, ?_, ?_, ?_, ?_, ?_, ?_⟩
  · rw [cell_of_row _ _ 0 _ _ _ h]; rfl
  · rw [cell_of_row _ _ 1 _ _ _ h]; rfl
  · rw [cell_of_row _ _ 2 _ _ _ h]; rfl
  · rw [cell_of_row _ _ 3 _ _ _ h]; rfl
  all_goals exact frozen_of_row W g _ _ _ h
theorem zero_own {W : World} {base gC gW n m : Nat} {reqs left : Int} (hC : W.heap[gC]? = some (.cells (zcs n) 64)) (hW : W.heap[gW]? = some (.cells (zws m) 72)) (bC : base ≤ gC) (bW : base ≤ gW) (hn : n ≤ 1048576) (hm : m ≤ 1048576) :
    DV.Own W base ⟨some ⟨gC, 0, none⟩, n, List.replicate n zcell, some ⟨gW, 0, none⟩, m, List.replicate m zwrite, reqs, left⟩ := by
  refine ⟨?_, ?_, fun r hr => ?_, fun r hr => ?_⟩
  · show World.ownsRow _ base _ 3 (.slice _ (List.replicate n zcell).length n) (List.replicate n zcell).length (cvs (List.replicate n zcell))
    rw [List.length_replicate, ← zcs_list]
    exact ⟨by simp [zcs, size_madeCells], .inr ⟨gC, n, zcs n, rfl, bC, hC, Nat.le_refl _, by unfold maxLen; omega, by simp [zcs, size_madeCells], List.take_of_length_le (by simp [zcs, size_madeCells])⟩⟩
  · show World.ownsRow _ base _ 2 (.slice _ (List.replicate m zwrite).length m) (List.replicate m zwrite).length (wvs (List.replicate m zwrite))
    rw [List.length_replicate, ← zws_list]
    exact ⟨by simp [zws, size_madeCells], .inr ⟨gW, m, zws m, rfl, bW, hW, Nat.le_refl _, by unfold maxLen; omega, by simp [zws, size_madeCells], List.take_of_length_le (by simp [zws, size_madeCells])⟩⟩
  · obtain rfl := List.eq_of_mem_replicate hr
    exact ⟨zrow_in _ _, zrow_in _ _⟩
  · obtain rfl := List.eq_of_mem_replicate hr
    exact zrow_in _ _

set_option maxHeartbeats 2000000 in
theorem clone_at (x : DV) (w : World) (hx : x.In w w.heap.size) (hn : x.cs.length ≤ 1048576 ∧ x.ws.length ≤ 1048576) (hs : CShort 1048576 x.cs) (ht : WShort 1048576 x.ws) :
    Calls Try.prog 37 #[x.v] w fun e w' => (∃ y : DV, e = .returned y.v ∧ y.d = x.d ∧ y.Own w' w.heap.size ∧ y.wc = y.ws.length) ∧ Below w.heap.size w w' := by
  obtain ⟨CA, ck, cs, WA, wk, ws, reqs, left⟩ := x
  obtain ⟨kc, kw, ci, wi, cl, wl⟩ := hx
  dsimp only at kc kw ci wi cl wl hn hs ht
  unfold DV.v
  dsimp only
  have P0 := four_new w (.slice CA cs.length ck) (.slice WA ws.length wk) (.int .i64 reqs) (.int .i64 left) 25
  have B0 := bl w (.cells #[.slice CA cs.length ck, .slice WA ws.length wk, .int .i64 reqs, .int .i64 left] 25)
  have L0 : (w.alloc (.cells #[.slice CA cs.length ck, .slice WA ws.length wk, .int .i64 reqs, .int .i64 left] 25)).heap.size = w.heap.size + 1 := by simp
  go_enter Try.func37, Try.ntmps37
  go_wp2_with fail
  generalize w.alloc (.cells #[.slice CA cs.length ck, .slice WA ws.length wk, .int .i64 reqs, .int .i64 left] 25) = w0 at *
  have Q0 := four_new w0 (.slice none 0 0) (.slice none 0 0) (.int .i64 0) (.int .i64 0) 25
  have P1 := P0.alloc (by omega) (.cells #[.slice none 0 0, .slice none 0 0, .int .i64 0, .int .i64 0] 25)
  have B1 := kal B0 (.cells #[.slice none 0 0, .slice none 0 0, .int .i64 0, .int .i64 0] 25)
  have L1 : (w0.alloc (.cells #[.slice none 0 0, .slice none 0 0, .int .i64 0, .int .i64 0] 25)).heap.size = w.heap.size + 2 := by simp [L0]
  generalize w0.alloc (.cells #[.slice none 0 0, .slice none 0 0, .int .i64 0, .int .i64 0] 25) = w1 at *
  rw [L0] at Q0
  clear P0 B0 L0 w0
  have mc := make_cells cs.length hn.1
  have mw := make_writes ws.length hn.2
  obtain ⟨c0, c1, c2, c3, -, -, -, -⟩ := id P1
  have fin : ∀ (W : World) (gC gW gN : Nat), Below w1.heap.size w1 W → W.heap[gC]? = some (.cells (zcs cs.length) 64) → W.heap[gW]? = some (.cells (zws ws.length) 72) →
      W.heap[gN]? = some (.cells #[.slice (some ⟨gC, 0, none⟩) cs.length cs.length, .slice (some ⟨gW, 0, none⟩) ws.length ws.length, .int .i64 reqs, .int .i64 left] 25) → w.heap.size + 2 ≤ gC → w.heap.size + 2 ≤ gW → w.heap.size + 2 ≤ gN → gC ≠ gN → gW ≠ gN →
      ∃ gN' gC gW : Nat, Value.pointer (some ⟨gN, 0, none⟩) = .pointer (some ⟨gN', 0, none⟩) ∧ DV.Own W (w.heap.size + 2) ⟨some ⟨gC, 0, none⟩, cs.length, List.replicate cs.length zcell, some ⟨gW, 0, none⟩, ws.length, List.replicate ws.length zwrite, reqs, left⟩ ∧
      Four W gN' (.slice (some ⟨gC, 0, none⟩) cs.length cs.length) (.slice (some ⟨gW, 0, none⟩) ws.length ws.length) (.int .i64 reqs) (.int .i64 left) ∧ Four W w.heap.size (.slice CA cs.length ck) (.slice WA ws.length wk) (.int .i64 reqs) (.int .i64 left) ∧
      Four W (w.heap.size + 1) (.slice none 0 0) (.slice none 0 0) (.int .i64 0) (.int .i64 0) ∧ Below w.heap.size w W ∧ w.heap.size + 2 ≤ gN' ∧ gN' < W.heap.size ∧ gC ≠ gN' ∧ gW ≠ gN' ∧ w.heap.size + 2 ≤ W.heap.size :=
    fun W gC gW gN hb hC hW hN b1 b2 b3 n1 n2 => ⟨gN, gC, gW, rfl, zero_own hC hW b1 b2 hn.1 hn.2, four_at hN, P1.keep hb (by omega), Q0.keep hb (by omega), bt B1 hb, b3, lt_of_heap hN, n1, n2, by have := lt_of_heap hN; omega⟩
  go_upto_region 1 with fail
  go_cut [3] from 8 (fun v wx => ∃ gN gC gW : Nat, v = .pointer (some ⟨gN, 0, none⟩) ∧ DV.Own wx (w.heap.size + 2) ⟨some ⟨gC, 0, none⟩, cs.length, List.replicate cs.length zcell, some ⟨gW, 0, none⟩, ws.length, List.replicate ws.length zwrite, reqs, left⟩ ∧
    Four wx gN (.slice (some ⟨gC, 0, none⟩) cs.length cs.length) (.slice (some ⟨gW, 0, none⟩) ws.length ws.length) (.int .i64 reqs) (.int .i64 left) ∧ Four wx w.heap.size (.slice CA cs.length ck) (.slice WA ws.length wk) (.int .i64 reqs) (.int .i64 left) ∧
    Four wx (w.heap.size + 1) (.slice none 0 0) (.slice none 0 0) (.int .i64 0) (.int .i64 0) ∧ Below w.heap.size w wx ∧ w.heap.size + 2 ≤ gN ∧ gN < wx.heap.size ∧ gC ≠ gN ∧ gW ≠ gN ∧ w.heap.size + 2 ≤ wx.heap.size)
  case first =>
    go_region_held3 (fun W => Below w1.heap.size w1 W ∧ W.cell? ⟨w.heap.size, 0, none⟩ = some (.slice CA cs.length ck) ∧ W.cell? ⟨w.heap.size, 1, none⟩ = some (.slice WA ws.length wk) ∧ W.cell? ⟨w.heap.size, 2, none⟩ = some (.int .i64 reqs) ∧ W.cell? ⟨w.heap.size, 3, none⟩ = some (.int .i64 left))
      ((go_split_ands; refine ⟨?_, ?_, ?_, ?_, ?_⟩ <;> (first
        | assumption | (first | assumption | exact below_dr (Below.refl _ _) | exact kal (by assumption) _ | exact below_dr (kal (Below.refl _ _) _) | exact below_dr (kal (kal (Below.refl _ _) _) _) | exact below_dr (kal (kal (kal (Below.refl _ _) _) _) _) | exact kal (below_dr (kal (Below.refl _ _) _)) _ | exact kal (below_dr (kal (kal (Below.refl _ _) _) _)) _ | exact kal (kal (below_dr (kal (Below.refl _ _) _)) _) _)
        | exact kst (a := w1) (by (first | assumption | exact below_dr (Below.refl _ _) | exact kal (by assumption) _ | exact below_dr (kal (Below.refl _ _) _) | exact below_dr (kal (kal (Below.refl _ _) _) _) | exact below_dr (kal (kal (kal (Below.refl _ _) _) _) _) | exact kal (below_dr (kal (Below.refl _ _) _)) _ | exact kal (below_dr (kal (kal (Below.refl _ _) _) _)) _ | exact kal (kal (below_dr (kal (Below.refl _ _) _)) _) _)) (by omega) (by assumption) | fail)))
      (first | fail)
    all_goals (go_wp2_with fail; go_meet)
    all_goals (first
      | exact fin _ (w.heap.size + 2) (w.heap.size + 2 + 1) (w.heap.size + 2 + 1 + 1) (below_dr (kal (kal (kal (Below.refl _ _) _) _) _)) (al3_0 L1 _ _ _) (al3_1 L1 _ _ _) (al3_2 L1 _ _ _) (by omega) (by omega) (by omega) (by omega) (by omega)
      | exact fin _ (w.heap.size + 2) (w.heap.size + 2 + 1 + 1) (w.heap.size + 2 + 1) (below_dr (kal (kal (kal (Below.refl _ _) _) _) _)) (al3_0 L1 _ _ _) (al3_2 L1 _ _ _) (al3_1 L1 _ _ _) (by omega) (by omega) (by omega) (by omega) (by omega)
      | exact fin _ (w.heap.size + 2 + 1) (w.heap.size + 2) (w.heap.size + 2 + 1 + 1) (below_dr (kal (kal (kal (Below.refl _ _) _) _) _)) (al3_1 L1 _ _ _) (al3_0 L1 _ _ _) (al3_2 L1 _ _ _) (by omega) (by omega) (by omega) (by omega) (by omega)
      | exact fin _ (w.heap.size + 2 + 1) (w.heap.size + 2 + 1 + 1) (w.heap.size + 2) (below_dr (kal (kal (kal (Below.refl _ _) _) _) _)) (al3_1 L1 _ _ _) (al3_2 L1 _ _ _) (al3_0 L1 _ _ _) (by omega) (by omega) (by omega) (by omega) (by omega)
      | exact fin _ (w.heap.size + 2 + 1 + 1) (w.heap.size + 2) (w.heap.size + 2 + 1) (below_dr (kal (kal (kal (Below.refl _ _) _) _) _)) (al3_2 L1 _ _ _) (al3_0 L1 _ _ _) (al3_1 L1 _ _ _) (by omega) (by omega) (by omega) (by omega) (by omega)
      | exact fin _ (w.heap.size + 2 + 1 + 1) (w.heap.size + 2 + 1) (w.heap.size + 2) (below_dr (kal (kal (kal (Below.refl _ _) _) _) _)) (al3_2 L1 _ _ _) (al3_1 L1 _ _ _) (al3_0 L1 _ _ _) (by omega) (by omega) (by omega) (by omega) (by omega))
  case rest =>
    obtain ⟨w6, rfl⟩ : ∃ x, x = wc := ⟨wc, rfl⟩
    obtain ⟨gN, gC, gW, rfl, hown, R0, P2, Q2, B2, g1, g2, g3, g4, g5⟩ := hcut
    clear fin P1 Q0 B1 L1 c0 c1 c2 c3 mc mw
    obtain ⟨c0, c1, c2, c3, -, -, -, -⟩ := id P2
    go_wp2_with fail
    clear c0 c1 c2 c3
    go_loopw [24] (fun i w' => ∃ (k : Nat) (rs : List CellR), k ≤ cs.length ∧ i = .int .i64 k ∧ rs.length = cs.length ∧ (cds rs).take k = (cds cs).take k ∧ DV.Own w' (w.heap.size + 2) ⟨some ⟨gC, 0, none⟩, cs.length, rs, some ⟨gW, 0, none⟩, ws.length, List.replicate ws.length zwrite, reqs, left⟩ ∧
      Four w' gN (.slice (some ⟨gC, 0, none⟩) cs.length cs.length) (.slice (some ⟨gW, 0, none⟩) ws.length ws.length) (.int .i64 reqs) (.int .i64 left) ∧ Four w' w.heap.size (.slice CA cs.length ck) (.slice WA ws.length wk) (.int .i64 reqs) (.int .i64 left) ∧
      Four w' (w.heap.size + 1) (.slice none 0 0) (.slice none 0 0) (.int .i64 0) (.int .i64 0) ∧ Below w.heap.size w w' ∧ gN < w'.heap.size) (fun i _ => cs.length - (RowKit.intOf i).toNat)
    case atStart => exact ⟨0, List.replicate cs.length zcell, by omega, rfl, by simp, rfl, hown, R0, P2, Q2, B2, g2⟩
    case round =>
      clear hown R0 P2 Q2 B2 g2
      obtain ⟨k, rs, hk, rfl, hrl, hrs, hown, R3, P3, Q3, hbr, gs⟩ := hrel
      by_cases hlt : k < cs.length
      · have i1 : (k : Int) < (cs.length : Int) := by omega
        obtain ⟨b1, off, u, rfl, hb1, r0, r1, r2, -, -, hu, -, e1⟩ := cell_at (kc.below hbr) (ci.below hbr) hlt
        have hum := ci u hu
        have m5 := hs u hu
        have HL : Hid ((cds rs).take k = (cds cs).take k) := hrs
        have E1 := Lib.hid e1
        have HR := Lib.hid hrl
        clear hrs e1 kw kc ci wi hs ht hu hrl
        go_wp2_with fail
        obtain ⟨t0, t1, t2⟩ := three_new wr (.int .i64 u.st) (.slice u.b.A u.b.l.length u.b.c) (.slice u.o.A u.o.l.length u.o.c) 64
        have hbx := kal (Below.refl wr.heap.size wr) (.cells #[.int .i64 u.st, .slice u.b.A u.b.l.length u.b.c, .slice u.o.A u.o.l.length u.o.c] 64)
        have lx : (wr.alloc (.cells #[.int .i64 u.st, .slice u.b.A u.b.l.length u.b.c, .slice u.o.A u.o.l.length u.o.c] 64)).heap.size = wr.heap.size + 1 := by simp
        generalize wr.alloc (.cells #[.int .i64 u.st, .slice u.b.A u.b.l.length u.b.c, .slice u.o.A u.o.l.length u.o.c] 64) = wb at *
        have p0 := (R3.keep hbx gs).c0
        have bb : Below w.heap.size w wb := bt hbr hbx
        have hw := hbr.size
        have cB : ∀ W, Below wb.heap.size wb W → Calls Try.prog 35 #[.slice u.b.A u.b.l.length u.b.c] W fun e w' => One W.heap.size u.b.l e w' ∧ Below W.heap.size W w' := fun W hW => clone_any _ _ _ _ _ _ rfl (hum.1.below (bb.trans (hW.mono (by omega)))).1 (by omega)
        have cO : ∀ W, Below wb.heap.size wb W → Calls Try.prog 35 #[.slice u.o.A u.o.l.length u.o.c] W fun e w' => One W.heap.size u.o.l e w' ∧ Below W.heap.size W w' := fun W hW => clone_any _ _ _ _ _ _ rfl (hum.2.below (bb.trans (hW.mono (by omega)))).1 (by omega)
        have L1 : gN < wb.heap.size := by omega
        have L2 : wr.heap.size < wb.heap.size := by omega
        refine wp_region_tail (S := fun W => W.cell? ⟨gN, 0, none⟩ = some (.slice (some ⟨gC, 0, none⟩) cs.length cs.length) ∧ W.cell? ⟨wr.heap.size, 0, none⟩ = some (.int .i64 u.st) ∧ W.cell? ⟨wr.heap.size, 1, none⟩ = some (.slice u.b.A u.b.l.length u.b.c) ∧
            W.cell? ⟨wr.heap.size, 2, none⟩ = some (.slice u.o.A u.o.l.length u.o.c) ∧ Below wb.heap.size wb W) 13 rfl (by kernel_rfl) (by kernel_rfl) ⟨p0, t0, t1, t2, below_dr (Below.refl _ _)⟩ (fun hS => ?_)
        simp only [List.take_succ_cons, List.take_zero]
        (refine wpAnyH_take (i := 0) (v := ?_) rfl (by kernel_rfl) (by kernel_rfl) (by kernel_rfl) (fun _ _ _ h => h) (Or.inl ⟨by rfl, ?_⟩) (by assumption) ?_; rotate_left; (focus (intro w hSw; (try dsimp only at hSw); go_split_ands; go_simp <;> with_reducible rfl)); simp only [List.getElem_toArray, List.getElem_cons_zero, Act.put, List.setIfInBounds_toArray, List.set_cons_zero, List.set_cons_succ])
        (refine wpAnyH_take (i := 1) (v := ?_) rfl (by kernel_rfl) (by kernel_rfl) (by kernel_rfl) (fun _ _ _ h => h) (Or.inl ⟨by rfl, ?_⟩) (by assumption) ?_; rotate_left; (focus (intro w hSw; (try dsimp only at hSw); go_split_ands; go_simp <;> with_reducible rfl)); simp only [List.getElem_toArray, List.getElem_cons_zero, List.getElem_cons_succ, Act.put, List.setIfInBounds_toArray, List.set_cons_zero, List.set_cons_succ])
        (refine wpAnyH_take (i := 2) (v := ?_) rfl (by kernel_rfl) (by kernel_rfl) (by kernel_rfl) (fun _ _ _ h => h) (Or.inl ⟨by rfl, ?_⟩) (by assumption) ?_; rotate_left; (focus (intro w hSw; (try dsimp only at hSw); go_split_ands; go_simp <;> with_reducible rfl)); simp only [List.getElem_toArray, List.getElem_cons_zero, List.getElem_cons_succ, Act.put, List.setIfInBounds_toArray, List.set_cons_zero, List.set_cons_succ])
        (refine wpAnyH_take (i := 3) (v := ?_) rfl (by kernel_rfl) (by kernel_rfl) (by kernel_rfl) (fun _ _ _ h => h) (Or.inl ⟨by rfl, ?_⟩) (by assumption) ?_; rotate_left; (focus (intro w hSw; (try dsimp only at hSw); go_split_ands; go_simp <;> with_reducible rfl)); simp only [List.getElem_toArray, List.getElem_cons_zero, List.getElem_cons_succ, Act.put, List.setIfInBounds_toArray, List.set_cons_zero, List.set_cons_succ])
        (refine wpAnyH_take (i := 4) (v := ?_) rfl (by kernel_rfl) (by kernel_rfl) (by kernel_rfl) (fun _ _ _ h => h) (Or.inl ⟨by rfl, ?_⟩) (by assumption) ?_; rotate_left; (focus (intro w hSw; (try dsimp only at hSw); go_split_ands; go_simp <;> with_reducible rfl)); simp only [List.getElem_toArray, List.getElem_cons_zero, List.getElem_cons_succ, Act.put, List.setIfInBounds_toArray, List.set_cons_zero, List.set_cons_succ])
        (refine wpAnyH_take (i := 5) (v := ?_) rfl (by kernel_rfl) (by kernel_rfl) (by kernel_rfl) (fun _ _ _ h => h) (Or.inl ⟨by rfl, ?_⟩) (by assumption) ?_; rotate_left; (focus (intro w hSw; (try dsimp only at hSw); go_split_ands; go_simp <;> with_reducible rfl)); simp only [List.getElem_toArray, List.getElem_cons_zero, List.getElem_cons_succ, Act.put, List.setIfInBounds_toArray, List.set_cons_zero, List.set_cons_succ])
        (refine wpAnyH_take (i := 6) (v := ?_) rfl (by kernel_rfl) (by kernel_rfl) (by kernel_rfl) (fun _ _ _ h => h) (Or.inl ⟨by rfl, ?_⟩) (by assumption) ?_; rotate_left; (focus (intro w hSw; (try dsimp only at hSw); go_split_ands; go_simp <;> with_reducible rfl)); simp only [List.getElem_toArray, List.getElem_cons_zero, List.getElem_cons_succ, Act.put, List.setIfInBounds_toArray, List.set_cons_zero, List.set_cons_succ])
        (refine wpAnyH_take (i := 8) (v := ?_) rfl (by kernel_rfl) (by kernel_rfl) (by kernel_rfl) (fun _ _ _ h => h) (Or.inl ⟨by rfl, ?_⟩) (by assumption) ?_; rotate_left; (focus (intro w hSw; (try dsimp only at hSw); go_split_ands; go_simp <;> with_reducible rfl)); simp only [List.getElem_toArray, List.getElem_cons_zero, List.getElem_cons_succ, Act.put, List.setIfInBounds_toArray, List.set_cons_zero, List.set_cons_succ])
        (refine wpAnyH_take (i := 9) (v := ?_) rfl (by kernel_rfl) (by kernel_rfl) (by kernel_rfl) (fun _ _ _ h => h) (Or.inl ⟨by rfl, ?_⟩) (by assumption) ?_; rotate_left; (focus (intro w hSw; (try dsimp only at hSw); go_split_ands; go_simp <;> with_reducible rfl)); simp only [List.getElem_toArray, List.getElem_cons_zero, List.getElem_cons_succ, Act.put, List.setIfInBounds_toArray, List.set_cons_zero, List.set_cons_succ])
        refine wpAnyH_ready (rs := [7]) (by kernel_rfl) (by simp) ?_
        refine AllReadyH.cons rfl (fun K hK => ?_) AllReadyH.nil
        go_simp
        (with_reducible refine (cB _ (below_dr (Below.refl _ _))).mono ?_)
        rintro e wB ⟨⟨vb, rfl, ob⟩, hbb⟩
        obtain ⟨Xb, cb, rfl, -, -, -, -⟩ := id ob.form
        have sb : Below wb.heap.size wb wB := bt (below_dr (Below.refl _ _)) hbb
        refine hK.out _ _ ⟨ks sb L1 p0, ks sb L2 t0, ks sb L2 t1, ks sb L2 t2, sb⟩ (fun hS => ?_)
        clear hK K
        refine wpAnyH_ready (rs := [10]) (by kernel_rfl) (by simp) ?_
        refine AllReadyH.cons rfl (fun K hK => ?_) AllReadyH.nil
        go_simp
        (with_reducible refine (cO _ sb).mono ?_)
        rintro e wo ⟨⟨vo, rfl, oo⟩, hbo⟩
        obtain ⟨Xo, co, rfl, -, -, -, -⟩ := id oo.form
        have so : Below wb.heap.size wb wo := bt sb hbo
        refine hK.out _ _ ⟨ks so L1 p0, ks so L2 t0, ks so L2 t1, ks so L2 t2, so⟩ (fun hS => ?_)
        clear hK K
        (refine wpAnyH_take (i := 11) (v := ?_) rfl (by kernel_rfl) (by kernel_rfl) (by kernel_rfl) (fun _ _ _ h => h) (Or.inl ⟨by rfl, ?_⟩) (by assumption) ?_; rotate_left; (focus (intro w hSw; (try dsimp only at hSw); go_split_ands; go_simp <;> with_reducible rfl)); simp only [List.getElem_toArray, List.getElem_cons_zero, List.getElem_cons_succ, Act.put, List.setIfInBounds_toArray, List.set_cons_zero, List.set_cons_succ])
        (refine wpAnyH_take (i := 12) (v := ?_) rfl (by kernel_rfl) (by kernel_rfl) (by kernel_rfl) (fun _ _ _ h => h) (Or.inl ⟨by rfl, ?_⟩) (by assumption) ?_; rotate_left; (focus (intro w hSw; (try dsimp only at hSw); go_split_ands; go_simp <;> with_reducible rfl)); simp only [List.getElem_toArray, List.getElem_cons_zero, List.getElem_cons_succ, Act.put, List.setIfInBounds_toArray, List.set_cons_zero, List.set_cons_succ])
        refine wpAnyH_done (by kernel_rfl) ?_ _
        have RB := (own_rin (r := ⟨Xb, cb, u.b.l⟩) ob).next hbo
        have RO := own_rin (r := ⟨Xo, co, u.o.l⟩) oo
        have oD := (hown.below hbx).below so
        obtain ⟨q, -, d0, d1, d2, f0, f1, f2, lo, hi, -, -, -⟩ := oD.at (g := gC) (k := k) rfl (by show k < rs.length; rw [HR.out]; exact hlt)
        simp only [tailQ]
        go_wp2_with fail
        go_roundw
        case rel =>
          have z0 : w.heap.size ≤ gC := by omega
          have n0 : w.heap.size ≠ gC := by omega
          have n1 : w.heap.size + 1 ≠ gC := by omega
          refine ⟨k + 1, rs.modify k fun _ => ⟨u.st, ⟨Xb, cb, u.b.l⟩, ⟨Xo, co, u.o.l⟩⟩, by omega, by go_num, by rw [List.length_modify]; exact HR.out, ?_, oD.cell (g := gC) (k := k) rfl (by show k < rs.length; rw [HR.out]; exact hlt) u.st RB RO,
            (((R3.keep (bt hbx so) gs).apart g3.symm _).apart g3.symm _).apart g3.symm _, (((P3.keep (bt hbx so) (by omega)).apart n0 _).apart n0 _).apart n0 _, (((Q3.keep (bt hbx so) (by omega)).apart n1 _).apart n1 _).apart n1 _,
            (((bt hbr (bt hbx so)).setCell z0 _).setCell z0 _).setCell z0 _, by have := so.size; simp; omega⟩
          rw [cds_modify (f := fun _ => ⟨u.st, ⟨Xb, cb, u.b.l⟩, ⟨Xo, co, u.o.l⟩⟩) (f' := fun _ => u.d) (fun _ => rfl) rs k, modify_take u.d _ _ (by rw [cds_length, HR.out]; exact hlt), take_next E1.out, HL.out]
        case measure => simp [RowKit.intOf]; omega
      · have hrs2 : cds rs = cds cs := by
          rw [List.take_of_length_le (by rw [cds_length]; omega), List.take_of_length_le (by rw [cds_length]; omega)] at hrs
          exact hrs
        have HC := Lib.hid hrs2
        have HR := Lib.hid hrl
        clear hrs hrs2 hrl
        have p1 := P3.c1
        go_wp2_with fail
        clear p1 hlt hk
        go_loopw [46] (fun i w' => ∃ (k : Nat) (vs : List WriR), k ≤ ws.length ∧ i = .int .i64 k ∧ vs.length = ws.length ∧ (wds vs).take k = (wds ws).take k ∧ DV.Own w' (w.heap.size + 2) ⟨some ⟨gC, 0, none⟩, cs.length, rs, some ⟨gW, 0, none⟩, ws.length, vs, reqs, left⟩ ∧
          Four w' gN (.slice (some ⟨gC, 0, none⟩) cs.length cs.length) (.slice (some ⟨gW, 0, none⟩) ws.length ws.length) (.int .i64 reqs) (.int .i64 left) ∧ Four w' w.heap.size (.slice CA cs.length ck) (.slice WA ws.length wk) (.int .i64 reqs) (.int .i64 left) ∧
          Four w' (w.heap.size + 1) (.slice none 0 0) (.slice none 0 0) (.int .i64 0) (.int .i64 0) ∧ Below w.heap.size w w' ∧ gN < w'.heap.size) (fun i _ => ws.length - (RowKit.intOf i).toNat)
        case atStart => exact ⟨0, List.replicate ws.length zwrite, by omega, rfl, by simp, rfl, hown, R3, P3, Q3, hbr, gs⟩
        case round =>
          clear hown R3 P3 Q3 hbr gs
          obtain ⟨k, vs, hk, rfl, hrl, hrs, hown, R3, P3, Q3, hbr, gs⟩ := hrel
          by_cases hlt : k < ws.length
          · have i1 : (k : Int) < (ws.length : Int) := by omega
            obtain ⟨b1, off, u, rfl, hb1, r0, r1, -, hu, -, e1⟩ := write_at (kw.below hbr) (wi.below hbr) hlt
            have hum := wi u hu
            have m5 := ht u hu
            have HL : Hid ((wds vs).take k = (wds ws).take k) := hrs
            have E1 := Lib.hid e1
            have HV := Lib.hid hrl
            clear hrs e1 kw kc ci wi hs ht hu hrl
            go_wp2_with fail
            obtain ⟨t0, t1⟩ := two_new wr (.int .i64 u.addr) (.slice u.b.A u.b.l.length u.b.c) 72
            have hbx := kal (Below.refl wr.heap.size wr) (.cells #[.int .i64 u.addr, .slice u.b.A u.b.l.length u.b.c] 72)
            have lx : (wr.alloc (.cells #[.int .i64 u.addr, .slice u.b.A u.b.l.length u.b.c] 72)).heap.size = wr.heap.size + 1 := by simp
            generalize wr.alloc (.cells #[.int .i64 u.addr, .slice u.b.A u.b.l.length u.b.c] 72) = wb at *
            have p0 := (R3.keep hbx gs).c1
            have bb : Below w.heap.size w wb := bt hbr hbx
            have hw := hbr.size
            have cB : ∀ W, Below wb.heap.size wb W → Calls Try.prog 35 #[.slice u.b.A u.b.l.length u.b.c] W fun e w' => One W.heap.size u.b.l e w' ∧ Below W.heap.size W w' := fun W hW => clone_any _ _ _ _ _ _ rfl (hum.below (bb.trans (hW.mono (by omega)))).1 (by omega)
            have L1 : gN < wb.heap.size := by omega
            have L2 : wr.heap.size < wb.heap.size := by omega
            refine wp_region_tail (S := fun W => W.cell? ⟨gN, 1, none⟩ = some (.slice (some ⟨gW, 0, none⟩) ws.length ws.length) ∧ W.cell? ⟨wr.heap.size, 0, none⟩ = some (.int .i64 u.addr) ∧ W.cell? ⟨wr.heap.size, 1, none⟩ = some (.slice u.b.A u.b.l.length u.b.c) ∧
                Below wb.heap.size wb W) 10 rfl (by kernel_rfl) (by kernel_rfl) ⟨p0, t0, t1, below_dr (Below.refl _ _)⟩ (fun hS => ?_)
            simp only [List.take_succ_cons, List.take_zero]
            (refine wpAnyH_take (i := 0) (v := ?_) rfl (by kernel_rfl) (by kernel_rfl) (by kernel_rfl) (fun _ _ _ h => h) (Or.inl ⟨by rfl, ?_⟩) (by assumption) ?_; rotate_left; (focus (intro w hSw; (try dsimp only at hSw); go_split_ands; go_simp <;> with_reducible rfl)); simp only [List.getElem_toArray, List.getElem_cons_zero, Act.put, List.setIfInBounds_toArray, List.set_cons_zero, List.set_cons_succ])
            (refine wpAnyH_take (i := 1) (v := ?_) rfl (by kernel_rfl) (by kernel_rfl) (by kernel_rfl) (fun _ _ _ h => h) (Or.inl ⟨by rfl, ?_⟩) (by assumption) ?_; rotate_left; (focus (intro w hSw; (try dsimp only at hSw); go_split_ands; go_simp <;> with_reducible rfl)); simp only [List.getElem_toArray, List.getElem_cons_zero, List.getElem_cons_succ, Act.put, List.setIfInBounds_toArray, List.set_cons_zero, List.set_cons_succ])
            (refine wpAnyH_take (i := 2) (v := ?_) rfl (by kernel_rfl) (by kernel_rfl) (by kernel_rfl) (fun _ _ _ h => h) (Or.inl ⟨by rfl, ?_⟩) (by assumption) ?_; rotate_left; (focus (intro w hSw; (try dsimp only at hSw); go_split_ands; go_simp <;> with_reducible rfl)); simp only [List.getElem_toArray, List.getElem_cons_zero, List.getElem_cons_succ, Act.put, List.setIfInBounds_toArray, List.set_cons_zero, List.set_cons_succ])
            (refine wpAnyH_take (i := 3) (v := ?_) rfl (by kernel_rfl) (by kernel_rfl) (by kernel_rfl) (fun _ _ _ h => h) (Or.inl ⟨by rfl, ?_⟩) (by assumption) ?_; rotate_left; (focus (intro w hSw; (try dsimp only at hSw); go_split_ands; go_simp <;> with_reducible rfl)); simp only [List.getElem_toArray, List.getElem_cons_zero, List.getElem_cons_succ, Act.put, List.setIfInBounds_toArray, List.set_cons_zero, List.set_cons_succ])
            (refine wpAnyH_take (i := 4) (v := ?_) rfl (by kernel_rfl) (by kernel_rfl) (by kernel_rfl) (fun _ _ _ h => h) (Or.inl ⟨by rfl, ?_⟩) (by assumption) ?_; rotate_left; (focus (intro w hSw; (try dsimp only at hSw); go_split_ands; go_simp <;> with_reducible rfl)); simp only [List.getElem_toArray, List.getElem_cons_zero, List.getElem_cons_succ, Act.put, List.setIfInBounds_toArray, List.set_cons_zero, List.set_cons_succ])
            (refine wpAnyH_take (i := 5) (v := ?_) rfl (by kernel_rfl) (by kernel_rfl) (by kernel_rfl) (fun _ _ _ h => h) (Or.inl ⟨by rfl, ?_⟩) (by assumption) ?_; rotate_left; (focus (intro w hSw; (try dsimp only at hSw); go_split_ands; go_simp <;> with_reducible rfl)); simp only [List.getElem_toArray, List.getElem_cons_zero, List.getElem_cons_succ, Act.put, List.setIfInBounds_toArray, List.set_cons_zero, List.set_cons_succ])
            (refine wpAnyH_take (i := 6) (v := ?_) rfl (by kernel_rfl) (by kernel_rfl) (by kernel_rfl) (fun _ _ _ h => h) (Or.inl ⟨by rfl, ?_⟩) (by assumption) ?_; rotate_left; (focus (intro w hSw; (try dsimp only at hSw); go_split_ands; go_simp <;> with_reducible rfl)); simp only [List.getElem_toArray, List.getElem_cons_zero, List.getElem_cons_succ, Act.put, List.setIfInBounds_toArray, List.set_cons_zero, List.set_cons_succ])
            refine wpAnyH_ready (rs := [7]) (by kernel_rfl) (by simp) ?_
            refine AllReadyH.cons rfl (fun K hK => ?_) AllReadyH.nil
            go_simp
            (with_reducible refine (cB _ (below_dr (Below.refl _ _))).mono ?_)
            rintro e wo ⟨⟨vb, rfl, ob⟩, hbb⟩
            obtain ⟨Xb, cb, rfl, -, -, -, -⟩ := id ob.form
            have so : Below wb.heap.size wb wo := bt (below_dr (Below.refl _ _)) hbb
            refine hK.out _ _ ⟨ks so L1 p0, ks so L2 t0, ks so L2 t1, so⟩ (fun hS => ?_)
            clear hK K
            (refine wpAnyH_take (i := 8) (v := ?_) rfl (by kernel_rfl) (by kernel_rfl) (by kernel_rfl) (fun _ _ _ h => h) (Or.inl ⟨by rfl, ?_⟩) (by assumption) ?_; rotate_left; (focus (intro w hSw; (try dsimp only at hSw); go_split_ands; go_simp <;> with_reducible rfl)); simp only [List.getElem_toArray, List.getElem_cons_zero, List.getElem_cons_succ, Act.put, List.setIfInBounds_toArray, List.set_cons_zero, List.set_cons_succ])
            (refine wpAnyH_take (i := 9) (v := ?_) rfl (by kernel_rfl) (by kernel_rfl) (by kernel_rfl) (fun _ _ _ h => h) (Or.inl ⟨by rfl, ?_⟩) (by assumption) ?_; rotate_left; (focus (intro w hSw; (try dsimp only at hSw); go_split_ands; go_simp <;> with_reducible rfl)); simp only [List.getElem_toArray, List.getElem_cons_zero, List.getElem_cons_succ, Act.put, List.setIfInBounds_toArray, List.set_cons_zero, List.set_cons_succ])
            refine wpAnyH_done (by kernel_rfl) ?_ _
            have RB := own_rin (r := ⟨Xb, cb, u.b.l⟩) ob
            have oD := (hown.below hbx).below so
            obtain ⟨q, -, d0, d1, f0, f1, lo, hi, -, -⟩ := oD.atW (g := gW) (k := k) rfl (by show k < vs.length; rw [HV.out]; exact hlt)
            simp only [tailQ]
            go_wp2_with fail
            go_roundw
            case rel =>
              have z0 : w.heap.size ≤ gW := by omega
              have n0 : w.heap.size ≠ gW := by omega
              have n1 : w.heap.size + 1 ≠ gW := by omega
              refine ⟨k + 1, vs.modify k fun _ => ⟨u.addr, ⟨Xb, cb, u.b.l⟩⟩, by omega, by go_num, by rw [List.length_modify]; exact HV.out, ?_, oD.write (g := gW) (k := k) rfl (by show k < vs.length; rw [HV.out]; exact hlt) u.addr RB,
                ((R3.keep (bt hbx so) gs).apart g4.symm _).apart g4.symm _, ((P3.keep (bt hbx so) (by omega)).apart n0 _).apart n0 _, ((Q3.keep (bt hbx so) (by omega)).apart n1 _).apart n1 _,
                ((bt hbr (bt hbx so)).setCell z0 _).setCell z0 _, by have := so.size; simp; omega⟩
              rw [wds_modify (f := fun _ => ⟨u.addr, ⟨Xb, cb, u.b.l⟩⟩) (f' := fun _ => u.d) (fun _ => rfl) vs k, modify_take u.d _ _ (by rw [wds_length, HV.out]; exact hlt), take_next E1.out, HL.out]
            case measure => simp [RowKit.intOf]; omega
          · have hrs2 : wds vs = wds ws := by
              rw [List.take_of_length_le (by rw [wds_length]; omega), List.take_of_length_le (by rw [wds_length]; omega)] at hrs
              exact hrs
            have HW := Lib.hid hrs2
            have HV := Lib.hid hrl
            clear hrs hrs2 hrl
            obtain ⟨r0, r1, r2, r3, -, -, -, -⟩ := id R3
            obtain ⟨q0, q1, q2, q3, f0, f1, f2, f3⟩ := id Q3
            go_wp2_with fail
            have k4 := (((Q3.set0 (.slice (some ⟨gC, 0, none⟩) cs.length cs.length)).set1 (.slice (some ⟨gW, 0, none⟩) ws.length ws.length)).set2 (.int .i64 reqs)).set3 (.int .i64 left)
            have hg : w.heap.size + 1 < w.heap.size + 2 := by omega
            have hl : w.heap.size ≤ w.heap.size + 1 := by omega
            have o1 := hown.set hg q0 (slice_no8 _ _ _) (.slice (some ⟨gC, 0, none⟩) cs.length cs.length)
            have o2 := o1.set hg (Q3.set0 _).c1 (slice_no8 _ _ _) (.slice (some ⟨gW, 0, none⟩) ws.length ws.length)
            have o3 := o2.set hg ((Q3.set0 _).set1 _).c2 (int_no8 _) (.int .i64 reqs)
            have o4 := o3.set hg (((Q3.set0 _).set1 _).set2 _).c3 (int_no8 _) (.int .i64 left)
            have o5 := o4.less (base' := w.heap.size) (by omega)
            refine bodyPost_ret (v := .agg #[.slice (some ⟨gC, 0, none⟩) cs.length cs.length, .slice (some ⟨gW, 0, none⟩) ws.length ws.length, .int .i64 reqs, .int .i64 left]) (by simp [results, Try.results37, go_sem, k4.c0, k4.c1, k4.c2, k4.c3]) rfl ⟨⟨⟨some ⟨gC, 0, none⟩, cs.length, rs, some ⟨gW, 0, none⟩, ws.length, vs, reqs, left⟩, ?_, ?_, o5, HV.out.symm⟩, (((hbr.setCell hl _).setCell hl _).setCell hl _).setCell hl _⟩
            · dsimp only
              rw [HR.out, HV.out]
            · show (⟨cds rs, wds vs, reqs, left⟩ : Dsk) = ⟨cds cs, wds ws, reqs, left⟩
              rw [HC.out, HW.out]
end Go.Proofs.Ytegcbmimndmfkaa.dsk
