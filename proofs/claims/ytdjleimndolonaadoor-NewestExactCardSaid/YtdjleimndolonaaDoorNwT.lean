/-
  Readings of one's own; casematekeep.TwinGots: readings like them. Conditions: rows shorter than 2^20.
-/
import Derived.Test.YtdjleimndolonaaDoorNwG
import Derived.Test.YtdjleimndolonaaDoorTail
import Derived.Deep.CutRange
namespace Go.Proofs.YtdjleimndolonaaDoor.nwt
open Go.RowKit Go.Lib
open Go.Proofs.YtdjleimndolonaaDoor.anc (bl kal kst ks bm ka row_apart row_form row_below step_row)

/-- A slice of readings of one's own, and all that it holds. -/
def OwnG (w : World) (base : Nat) (v : Value) (rs : List GotR) : Prop :=
  w.ownsRow base 28 2 v rs.length (gvs rs) ∧ ∀ r ∈ rs, Own w base 5 (.slice r.A r.l.length r.c) r.l
theorem u8_got : 5 ≠ 28 := by decide
theorem g_info : (Tryd.prog.info? 28).map (fun i => (i.zero, i.size, i.bytes)) = some (some (.agg #[.int .i64 0, .slice none 0 0]), 2, 32) := by kernel_rfl
theorem src_got {P : Program} {w : World} {g : Nat} {t tx e' : TypeId} {a b : Value} (hg : w.heap[g]? = some (.cells #[a, b] t)) (hk : P.underlying tx = some (.slice e')) (h1 : ∀ u ∈ [a, b], u.oneCell' = true) : Src P 2 tx (.slice (some ⟨g, 0, none⟩) 1 1) 1 [a, b] w := by
  refine Src.ofSlice w hk ⟨g, 0, none⟩ 1 1 [a, b] rfl (fun j u hu => ?_) h1
  rw [Addr.add_lit, cell_of_row w g (0 + j) _ t _ hg, Nat.zero_add, ← Array.getElem?_toList]
  exact hu
section
variable {w w' : World} {base : Nat} {v v' : Value} {rs : List GotR}
theorem ownG_nil (w : World) (base : Nat) : OwnG w base (.slice none 0 0) [] := ⟨World.ownsRow_nil w base _ 2, fun r hr => by cases hr⟩
theorem OwnG.below (h : OwnG w base v rs) (hb : Below w.heap.size w w') : OwnG w' base v rs := ⟨row_below h.1 hb, fun r hr => (h.2 r hr).below hb⟩
theorem OwnG.less {base' : Nat} (h : OwnG w base v rs) (hb : base' ≤ base) : OwnG w base' v rs := by
  refine ⟨⟨h.1.1, ?_⟩, fun r hr => (h.2 r hr).less hb⟩
  rcases h.1.2 with k | ⟨g, cap, cur, a, b, c⟩
  · exact .inl k
  · exact .inr ⟨g, cap, cur, a, by omega, c⟩
theorem OwnG.more {r : GotR} (h : OwnG w base v rs) (hg : w.grownBy w' v.ownBlock) (hp : Own w base 5 (.slice r.A r.l.length r.c) r.l) (h' : w'.ownsRow base 28 2 v' (rs.length + 1) (gvs rs ++ r.vs)) : OwnG w' base v' (rs ++ [r]) := by
  have hk : ∀ {q : GotR}, Own w base 5 (.slice q.A q.l.length q.c) q.l → Own w' base 5 (.slice q.A q.l.length q.c) q.l := fun hq => hq.kept hg (row_apart hq h.1 u8_got)
  refine ⟨?_, fun x hx => ?_⟩
  · rw [List.length_append, gvs_append, show gvs [r] = r.vs by simp [gvs]]
    exact h'
  · rcases List.mem_append.1 hx with k | k
    · exact hk (h.2 x k)
    · obtain rfl : x = r := List.mem_singleton.1 k
      exact hk hp
end
theorem OwnG.cell_set {w : World} {base g o : Nat} {v : Value} {rs : List GotR} (h : OwnG w base v rs) (hg : g < base) (x : Value) : OwnG (w.setCell ⟨g, o, none⟩ x) base v rs := by
  have hne : ∀ {e : TypeId} {u : Value} {k n : Nat} {xs : List Value}, w.ownsRow base e k u n xs → u.ownBlock ≠ some g := fun hu k => by have := (World.ownsRow.lt hu g k).1; omega
  exact ⟨ownsRow_setCell_other h.1 (hne h.1) x, fun r hr => ownsRow_setCell_other (h.2 r hr) (hne (h.2 r hr)) x⟩
theorem own_bin {w : World} {base : Nat} {e : TypeId} {r : GotR} (h : Own w base e (.slice r.A r.l.length r.c) r.l) : BIn w w.heap.size r := by
  obtain ⟨A, c, hv, h1, h2, hs, _⟩ := h.form
  simp only [Value.slice.injEq] at hv
  obtain ⟨ha, -, hc⟩ := hv
  exact ⟨by rw [ha]; exact hs, by omega, by omega⟩
theorem ownG_in {w : World} {base c : Nat} {A : Option Addr} {rs : List GotR} (h : OwnG w base (.slice A rs.length c) rs) : SlV w w.heap.size A (gvs rs) ∧ GIn w w.heap.size rs ∧ rs.length ≤ c ∧ c ≤ maxLen := by
  obtain ⟨A', c', hv, h1, h2, hs⟩ := row_form h.1
  simp only [Value.slice.injEq] at hv
  obtain ⟨rfl, -, rfl⟩ := hv
  exact ⟨hs, fun r hr => own_bin (h.2 r hr), h1, h2⟩
def GV.Own (w : World) (base : Nat) (g : GV) : Prop := OwnG w base (.slice g.A g.rs.length g.c) g.rs
theorem GV.Own.inn {w : World} {base : Nat} {g : GV} (h : GV.Own w base g) : g.In w w.heap.size := by
  obtain ⟨h1, h2, h3⟩ := ownG_in h
  exact ⟨h1, h2, h3⟩
theorem ownG_gv {w : World} {base : Nat} {v : Value} {rs : List GotR} (h : OwnG w base v rs) : ∃ g : GV, v = g.v ∧ g.rs = rs ∧ g.Own w base := by
  obtain ⟨A, c, hv, -, -, -⟩ := row_form h.1
  exact ⟨⟨A, c, rs⟩, hv, rfl, by rw [hv] at h; exact h⟩
set_option maxRecDepth 100000 in
set_option maxHeartbeats 4000000 in
theorem twin_gots (A : Option Addr) (c n : Nat) (rs : List GotR) (w : World) (hln : rs.length = n) (hA : SlV w w.heap.size A (gvs rs)) (hR : GIn w w.heap.size rs) (hn : n ≤ 1048576) (hs : GShort 1048576 rs) :
    Calls Tryd.prog 9 #[.slice A n c] w fun e w' => (∃ g : GV, e = .returned g.v ∧ gds g.rs = gds rs ∧ g.Own w' w.heap.size) ∧ Below w.heap.size w w' := by
  go_enter Tryd.func9, Tryd.ntmps9
  go_wp2_with fail
  go_loopw [3, 4] (fun v i w' => ∃ (k : Nat) (qs : List GotR), k ≤ n ∧ i = .int .i64 k ∧ gds qs = (gds rs).take k ∧ OwnG w' w.heap.size v qs ∧ Below w.heap.size w w') (fun _ i _ => n - (RowKit.intOf i).toNat)
  case atStart => exact ⟨0, [], by omega, rfl, rfl, ownG_nil _ _, Below.refl _ _⟩
  case round =>
    obtain ⟨w5, rfl⟩ : ∃ x, x = wr := ⟨wr, rfl⟩
    obtain ⟨k, qs, hk, rfl, hqs, hown, hbr⟩ := hrel
    by_cases hlt : k < n
    · obtain ⟨b1, off, x, rfl, hb1, r0, r1, m1, hx, -, e1⟩ := got_at (hA.below hbr) (hR.below hbr) (show k < rs.length by omega)
      have m5 := hs _ hx
      have i1 : (k : Int) < (n : Int) := by omega
      have lw := hbr.size
      have hlk : qs.length = k := by
        have := congrArg List.length hqs
        rw [gds_length, List.length_take, gds_length] at this
        omega
      have HL := Lib.hid (show gds (qs) ++ [x.d] = (gds rs).take (k + 1) by rw [take_next e1, hqs])
      have HT := Lib.hid (show ∀ W, Below w5.heap.size w5 W → Calls Tryd.prog 27 #[.slice x.A x.l.length x.c] W fun e w' => One W.heap.size x.l e w' ∧ Below W.heap.size W w' from fun W hW => twin_any x.A x.c _ x.l W ((m1.1.more lw).next hW) m5)
      have HLK := Lib.hid hlk
      have HQ := Lib.hid hqs
      clear m1 hx hR hs e1 hqs hlk hA hln
      go_wp2_with fail
      have hfar : ∀ q, u3.ownBlock = some q → w.heap.size ≤ q := fun q hq => (World.ownsRow.lt hown.1 q hq).1
      have HF := Lib.hid (show ∀ W, Below w.heap.size w5 W → W.cell? ⟨b1, off + k * 2, none⟩ = some (.int .i64 x.e) ∧ W.cell? ⟨b1, off + k * 2 + 1, none⟩ = some (.slice x.A x.l.length x.c) ∧ Below w.heap.size w5 W from fun W h => ⟨ks h hb1 r0, ks h hb1 r1, h⟩)
      go_region_held3 (fun W => W.cell? ⟨b1, off + k * 2, none⟩ = some (.int .i64 x.e) ∧ W.cell? ⟨b1, off + k * 2 + 1, none⟩ = some (.slice x.A x.l.length x.c) ∧ Below w.heap.size w5 W)
        ((refine HF.out _ ?_; first
          | with_reducible exact b3
          | with_reducible exact ka tb lw _
          | with_reducible exact tb
          | with_reducible exact below_dr (Below.refl _ _)
          | fail))
        (first
          | (go_at_call 27; (with_reducible refine (HT.out _ (below_dr (Below.refl _ _))).mono ?_); rintro e wt ⟨⟨vt, rfl, ot⟩, hbt⟩; obtain ⟨At, ct, hvt, -, -, -, -⟩ := id ot.form; subst hvt; have tt : Below w5.heap.size w5 wt := bt (below_dr (Below.refl w5.heap.size w5)) hbt; have tb : Below w.heap.size w5 wt := tt.mono lw)
          | (refine step_row _ (by rfl) _ _ _ _ (by rfl) w.heap.size 2 32 28 (.agg #[.int .i64 0, .slice none 0 0]) Tryd.underlying24 g_info (by rfl) u3 qs.length (gvs qs) (by rfl) ((hown.below tt).below (bl wt (.cells #[.int .i64 x.e, .slice At x.l.length ct] 28))).1 _ 1 _ (by rfl) (src_got (P := Tryd.prog) (heap_alloc_new wt (.cells #[.int .i64 x.e, .slice At x.l.length ct] 28)) Tryd.underlying24 (by simp [Value.oneCell'])) (by rw [HLK.out]; unfold maxLen; omega) (by rw [HLK.out]; omega) (Nat.le_trans lw (kal tt _).size) ?_; intro v3 w3 h3 hg3; have b3 : Below w.heap.size w5 w3 := (ka tb lw _).grown hg3 (Nat.le_trans lw (kal tt _).size) hfar)
          | fail)
      go_wp2_with fail
      have hgm : OwnG w3 w.heap.size v3 (qs ++ [⟨x.e, At, ct, x.l⟩]) := ((hown.below tt).below (bl wt _)).more (r := ⟨x.e, At, ct, x.l⟩) hg3 ((ot.below (bl wt _)).less (Nat.le_trans lw (Nat.le_refl _))) h3
      go_roundw
      case rel => exact ⟨k + 1, qs ++ [⟨x.e, At, ct, x.l⟩], by omega, by go_num, by rw [gds_append]; exact HL.out, hgm, hbr.trans b3⟩
      case measure => simp [RowKit.intOf]; omega
    · have hq : gds qs = gds rs := by rw [hqs, List.take_of_length_le (by rw [gds_length]; omega)]
      have HQ := Lib.hid hq
      obtain ⟨g, hv, hg, ho⟩ := ownG_gv hown
      have HG := Lib.hid hg
      clear hq hqs hg
      subst hv
      unfold GV.v
      go_wp2_with fail
      go_ret
      exact ⟨⟨g, rfl, by rw [HG.out]; exact HQ.out, ho⟩, hbr⟩
end Go.Proofs.YtdjleimndolonaaDoor.nwt
