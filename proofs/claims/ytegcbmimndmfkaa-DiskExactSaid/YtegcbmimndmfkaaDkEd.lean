/-
  The document's disk: Write. Conditions: a valid disk with rows of its own; a cell's address; bytes not too long.
-/
import Derived.Test.YtegcbmimndmfkaaDkEb
import Derived.Test.YtegcbmimndmfkaaDkN
import Derived.Deep.RegionLaw
namespace Go.Proofs.Ytegcbmimndmfkaa.dsk
open Go.RowKit Go.Lib

set_option maxHeartbeats 2000000 in
theorem rwrite_dead (y : DV) (a : Int) (b : Row) (base g : Nat) (w : World) (h : RefD w base g y) (hl : y.left = 0) :
    Calls Try.prog 24 #[.pointer (some ⟨g, 0, none⟩), .int .i64 a, .slice b.A b.l.length b.c] w fun e w' => e = .returned (.int .i64 8) ∧ RefD w' base g y ∧ Below base w w' := by
  have cR := rreq_dead y base g w h hl
  have HH := Lib.hid h
  clear h
  go_enter Try.func24, Try.ntmps24
  go_wp2_with (first | (go_at_call 42; (with_reducible refine cR.mono ?_); rintro e w1 ⟨rfl, rfl⟩))
  go_ret
  exact ⟨rfl, HH.out, Below.refl _ _⟩
theorem rows_kept {w w' : World} {base g : Nat} {y : DV} (h : RowsG w base g y) (o : y.Own w base) (hg : w.grownBy w' (Value.slice y.WA y.ws.length y.wc).ownBlock) : (∀ r ∈ y.cs, RIn w' w'.heap.size r.b ∧ RIn w' w'.heap.size r.o) ∧ ∀ r ∈ y.ws, RIn w' w'.heap.size r.b := by
  have hk : ∀ {q : Row}, Own w base 5 q.v q.l → RIn w' w'.heap.size q := fun hq => own_rin (hq.kept hg (row_apart hq o.ow u8_write))
  exact ⟨fun r hr => ⟨hk (h.1.1 r hr).1, hk (h.1.1 r hr).2⟩, fun r hr => hk (h.1.2 r hr)⟩
theorem RowsG.below {w w' : World} {base g : Nat} {y : DV} (h : RowsG w base g y) (hb : Below w.heap.size w w') : RowsG w' base g y :=
  ⟨⟨fun r hr => ⟨(h.1.1 r hr).1.below hb, (h.1.1 r hr).2.below hb⟩, fun r hr => (h.1.2 r hr).below hb⟩, h.2⟩
theorem ws_not {w : World} {base n c g : Nat} {A : Option Addr} {rs : List WriR} {u : Value} (h : w.ownsRow base 72 2 (.slice A n c) n (wvs rs)) (hn : rs ≠ []) (h0 : w.cell? ⟨g, 0, none⟩ = some u) (hu : ∀ a, u ≠ .int .i64 a) : (Value.slice A n c).ownBlock ≠ some g := by
  intro hb
  obtain ⟨x, rs, rfl⟩ := List.exists_cons_of_ne_nil hn
  have hs := (row_in h).1
  rcases h.2 with ⟨e, hz⟩ | ⟨g', cap, cur, e1, _⟩
  · rw [e] at hb; cases hb
  · simp only [Value.slice.injEq] at e1
    rw [e1.1] at hb hs
    simp only [Value.ownBlock, Option.some.injEq] at hb
    rw [hb] at hs
    have := (slv_cell hs (i := 0) (by rw [wvs_cons]; rfl)).1
    rw [h0] at this
    exact hu _ (Option.some.inj this)
set_option maxRecDepth 100000 in
set_option maxHeartbeats 4000000 in
theorem rwrite_ok (y : DV) (a : Int) (b : Row) (base g : Nat) (w : World) (h : RefD w base g y) (hR : RowsG w base g y) (hv : Valid y.d) (hl : ¬ y.left = 0) (a0 : 0 ≤ a) (a1 : a < y.cs.length) (hb : RIn w base b) (hbl : b.l.length ≤ 200) :
    Calls Try.prog 24 #[.pointer (some ⟨g, 0, none⟩), .int .i64 a, .slice b.A b.l.length b.c] w fun e w' => e = .returned (.int .i64 (if bad y.d a then 7 else 0)) ∧ (∃ z : DV, z.d = (if bad y.d a then req y.d else ⟨y.d.cells, y.d.cache ++ [⟨a, b.l⟩], (req y.d).reqs, (req y.d).left⟩) ∧ RefD w' base g z) ∧ Below base w w' := by
  have hn : y.ws.length ≤ 2000 := by have h1 := hv.1.1.2.2; rwa [show y.d.cache.length = y.ws.length from wds_length _] at h1
  have hbase : base ≤ w.heap.size := Nat.le_of_lt (Nat.lt_of_le_of_lt h.lo h.hi)
  have lo := h.lo
  obtain ⟨ka, hka⟩ : ∃ ka : Nat, a = ka := ⟨a.toNat, by omega⟩
  have cR := rreq_ok y base g w h hl hv.1.2.1 hv.1.2.2.1 hv.1.2.2.2.1 hv.1.2.2.2.2
  subst hka
  go_enter Try.func24, Try.ntmps24
  clear h hv
  go_upto_region 3 with (first | (go_at_call 42; (with_reducible refine cR.mono ?_); rintro e w1 ⟨rfl, h2, b2, hR2, -⟩))
  clear cR
  have hR1 := hR2 hR
  have hb1 := hb.below b2
  have L1 := h2.hi
  have hb1 := hb1.more (show base ≤ w1.heap.size by omega)
  obtain ⟨c0, c1, c2, c3, f0, f1, f2, f3⟩ := id h2.r
  obtain ⟨bc, oc, u, ec, hbc, u0, u1, u2, um, -, -, eu, ud⟩ := cell_at h2.o.in.hc h2.o.in.ci (show ka < y.cs.length by omega)
  dsimp only at ec
  rw [ec] at c0
  have hst : (y.d.cells[(ka : Int).toNat]?).map Cel.st = some u.st := by rw [show y.d.cells[(ka : Int).toNat]? = some u.d from ud]; rfl
  have hcl : y.d.cache.length = y.ws.length := wds_length _
  have HH := Lib.hid h2
  have HG := Lib.hid hR1
  have HB := Lib.hid hb1
  clear u1 u2 hbc eu ud um h2 hR2 hR hR1 hb hb1
  have i1 : (ka : Int) < (y.cs.length : Int) := a1
  by_cases hs : u.st = 2
  · have hbad : bad y.d ka := .inl (by rw [hst, hs])
    have n1 : (u.st == 2) = true := by rw [hs]; rfl
    have HD := Lib.hid hbad
    clear hst hcl hbad
    rw [hs] at u0
    go_wp2_with fail
    go_ret
    exact ⟨rfl, ⟨_, rfl, HH.out⟩, b2⟩
  have n1 : (u.st == 2) = false := beq_eq_false_iff_ne.2 hs
  by_cases h20 : y.ws.length = 2000
  · have hbad : bad y.d ka := .inr (by rw [hcl, h20])
    have n2 : (2000 : Int) ≤ (y.ws.length : Int) := by omega
    have HD := Lib.hid hbad
    clear hst hcl hbad hs h20
    go_wp2_with fail
    go_ret
    exact ⟨rfl, ⟨_, rfl, HH.out⟩, b2⟩
  have hbad : ¬ bad y.d ka := by
    rintro (h | h)
    · rw [hst] at h
      exact hs (Option.some.inj h)
    · rw [hcl] at h
      exact h20 h
  have n2 : ¬ ((2000 : Int) ≤ (y.ws.length : Int)) := by omega
  have HD := Lib.hid hbad
  clear hst hcl hbad hs h20
  go_upto_region 5 with fail
  have cT := fun (W : World) (hW : Below w1.heap.size w1 W) => twin_any b.A b.c W.heap.size b.l W (HB.out.next hW).1 (by omega)
  go_region_law (first
    | (refine step_row (wo.alloc (.cells #[.int .i64 ka, .slice Xo b.l.length co] 72)) (by rfl) _ _ _ _ (by rfl) base 2 32 72 (.agg #[.int .i64 0, .slice none 0 0]) Try.underlying23 w_info (by rfl) (.slice y.WA y.ws.length y.wc) y.ws.length (wvs y.ws) (by rfl) (HH.out.below (kal hbo _)).o.ow _ 1 _ (by rfl) (src_write (P := Try.prog) (heap_alloc_new wo (.cells #[.int .i64 ka, .slice Xo b.l.length co] 72)) Try.underlying23 (by simp [Value.oneCell'])) (by unfold maxLen; omega) (by omega) (by have := hbo.size; rw [World.size_alloc]; omega) ?_; intro v3 w6 h3 hg3; obtain ⟨A3, c4, rfl, -, -, -⟩ := row_form h3; have R6 := (HH.out.below (kal hbo (.cells #[.int .i64 ka, .slice Xo b.l.length co] 72))).r.grown hg3 (fun e => HH.out.nw e.symm); obtain ⟨-, q1, -, -, -, q5, -, -⟩ := id R6)
    | (go_simp; go_at_call 29; (with_reducible refine (cT _ (by first | (with_reducible exact Below.refl _ _) | (with_reducible exact below_dr (Below.refl _ _)))).mono ?_); rintro e wo ⟨⟨vo, rfl, oo⟩, hbo⟩; obtain ⟨Xo, co, rfl, -, -, -, -⟩ := id oo.form; (first | (have hbo : Below w1.heap.size w1 wo := bt (below_dr (Below.refl _ _)) hbo) | skip); have o1 := (HH.out.below hbo).r.c1; have o2 := (HH.out.below (kal hbo (.cells #[.int .i64 ka, .slice Xo b.l.length co] 72))).r.c1)
    | fail)
  all_goals
    have WW := kal hbo (.cells #[.int .i64 ka, .slice Xo b.l.length co] 72)
    have HA := HH.out.below WW
    have hk := rows_kept (show RowsG _ base g ⟨y.CA, y.cc, y.cs, y.WA, y.wc, y.ws, min (y.reqs + 1) 1048576, less y.left⟩ from HG.out.below WW) HA.o hg3
    have oA := oo.below (bl wo (.cells #[.int .i64 ka, .slice Xo b.l.length co] 72))
    have rO := own_rin (r := ⟨Xo, co, b.l⟩) (oA.kept hg3 (row_apart oA HA.o.ow u8_write))
    have o6 : DV.Own w6 base ⟨y.CA, y.cc, y.cs, A3, c4, y.ws ++ [⟨ka, ⟨Xo, co, b.l⟩⟩], min (y.reqs + 1) 1048576, less y.left⟩ := by
      refine ⟨World.ownsRow.kept HA.o.oc hg3 (row_apart HA.o.oc HA.o.ow cell_write), ?_, hk.1, fun r hr => ?_⟩
      · show w6.ownsRow _ _ 2 (.slice A3 (y.ws ++ [_]).length c4) (y.ws ++ [_]).length (wvs (y.ws ++ [_]))
        rw [List.length_append, wvs_append]
        exact h3
      · rcases List.mem_append.1 hr with h | h
        · exact hk.2 r h
        · obtain rfl := List.mem_singleton.1 h
          exact rO
    have nw6 := ws_not o6.ow (by simp) R6.c0 (fun a e => by cases e)
    have o7 := o6.apart HH.out.nc nw6 R6.c1 (slice_no8 _ _ _) (.slice A3 (y.ws.length + 1) c4)
    have R7 := R6.set1 (.slice A3 (y.ws.length + 1) c4)
    have s7 : (w6.setCell ⟨g, 1, none⟩ (.slice A3 (y.ws.length + 1) c4)).heap.size = w6.heap.size := by simp
    have B6 : Below base w w6 := (b2.trans (WW.mono (by omega))).grown hg3 (by have := WW.size; omega) (fun q hq => (World.ownsRow.lt HA.o.ow q hq).1)
    have B7 := B6.setCell (p := ⟨g, 1, none⟩) lo (.slice A3 (y.ws.length + 1) c4)
    have g6 : g < w6.heap.size := by have := WW.size; have := hg3.size; omega
    have RF : RefD (w6.setCell ⟨g, 1, none⟩ (.slice A3 (y.ws.length + 1) c4)) base g ⟨y.CA, y.cc, y.cs, A3, c4, y.ws ++ [⟨ka, ⟨Xo, co, b.l⟩⟩], min (y.reqs + 1) 1048576, less y.left⟩ := by
      refine ⟨?_, o7, HH.out.nc, nw6, lo, by rw [s7]; exact g6⟩
      show Four _ g _ (.slice A3 (y.ws ++ [_]).length c4) _ _
      rw [List.length_append]
      exact R7
    have HR := Lib.hid RF
    have HS := Lib.hid B7
    clear RF B7 o7 R7 s7 B6 g6 nw6 o6 rO oA hk HA WW
    go_wp2_with fail
    go_ret
    refine ⟨rfl, ⟨_, ?_, HR.out⟩, HS.out⟩
    show (⟨cds y.cs, wds (y.ws ++ [_]), min (y.reqs + 1) 1048576, less y.left⟩ : Dsk) = ⟨cds y.cs, wds y.ws ++ [_], (req y.d).reqs, (req y.d).left⟩
    rw [show wds (y.ws ++ [(⟨ka, ⟨Xo, co, b.l⟩⟩ : WriR)]) = wds y.ws ++ [⟨ka, b.l⟩] by simp [wds, WriR.d]]
    rfl
end Go.Proofs.Ytegcbmimndmfkaa.dsk
