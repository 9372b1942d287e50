/-
  The law DiskCrashes: the disk's variable and the two lists beside each other. Conditions: as each says.
-/
import Derived.Test.YtegcbmimndmfkaaDkCm
import Derived.Test.YtegcbmimndmfkaaDkRi
namespace Go.Proofs.Ytegcbmimndmfkaa.dsk
open Go.RowKit Go.Lib

/-- The disk's variable gd, the lists' blocks gs and gn. -/
structure CrM (base gd gs gn : Nat) (y : DV) (S T : List Row) (w : World) : Prop where
  d : RefD w base gd y
  s : Want w gs S
  t : Want w gn T
  rs : ∀ r ∈ S, RIn w w.heap.size r
  rt : ∀ r ∈ T, RIn w w.heap.size r
  ne : gs ≠ gn
  s1 : gd < gs
  t1 : gd < gn
  c1 : (Value.slice y.CA y.cs.length y.cc).ownBlock ≠ some gs
  c2 : (Value.slice y.WA y.ws.length y.wc).ownBlock ≠ some gs
  c3 : (Value.slice y.CA y.cs.length y.cc).ownBlock ≠ some gn
  c4 : (Value.slice y.WA y.ws.length y.wc).ownBlock ≠ some gn
section
variable {base gd gs gn : Nat} {y z : DV} {S T : List Row} {w w' : World}
theorem CrM.below (h : CrM base gd gs gn y S T w) (hb : Below w.heap.size w w') : CrM base gd gs gn y S T w' :=
  ⟨h.d.below hb, h.s.below hb, h.t.below hb, fun r hr => (h.rs r hr).next hb, fun r hr => (h.rt r hr).next hb, h.ne, h.s1, h.t1, h.c1, h.c2, h.c3, h.c4⟩
theorem own_not {b2 g : Nat} (o : z.Own w b2) (hg : g < b2) : (Value.slice z.CA z.cs.length z.cc).ownBlock ≠ some g ∧ (Value.slice z.WA z.ws.length z.wc).ownBlock ≠ some g :=
  ⟨fun e => by have := (World.ownsRow.lt o.oc _ e).1; omega, fun e => by have := (World.ownsRow.lt o.ow _ e).1; omega⟩
theorem own_notnew {b2 g : Nat} (o : z.Own w b2) (hg : w.heap.size ≤ g) : (Value.slice z.CA z.cs.length z.cc).ownBlock ≠ some g ∧ (Value.slice z.WA z.ws.length z.wc).ownBlock ≠ some g :=
  ⟨fun e => by have := (World.ownsRow.lt o.oc _ e).2; omega, fun e => by have := (World.ownsRow.lt o.ow _ e).2; omega⟩
/-- Another disk is stored. -/
theorem CrM.put {b2 : Nat} (h : CrM base gd gs gn y S T w) (o : z.Own w b2) (hb : base ≤ b2) (hd : gd < b2)
    (k1 : (Value.slice z.CA z.cs.length z.cc).ownBlock ≠ some gs ∧ (Value.slice z.WA z.ws.length z.wc).ownBlock ≠ some gs) (k2 : (Value.slice z.CA z.cs.length z.cc).ownBlock ≠ some gn ∧ (Value.slice z.WA z.ws.length z.wc).ownBlock ≠ some gn) :
    CrM base gd gs gn z S T ((((w.setCell ⟨gd, 0, none⟩ (.slice z.CA z.cs.length z.cc)).setCell ⟨gd, 1, none⟩ (.slice z.WA z.ws.length z.wc)).setCell ⟨gd, 2, none⟩ (.int .i64 z.reqs)).setCell ⟨gd, 3, none⟩ (.int .i64 z.left)) ∧
    Below base w ((((w.setCell ⟨gd, 0, none⟩ (.slice z.CA z.cs.length z.cc)).setCell ⟨gd, 1, none⟩ (.slice z.WA z.ws.length z.wc)).setCell ⟨gd, 2, none⟩ (.int .i64 z.reqs)).setCell ⟨gd, 3, none⟩ (.int .i64 z.left)) := by
  obtain ⟨V, b', s', i', -⟩ := var_set h.d o hb hd
  have e1 := h.s1
  have e2 := h.t1
  refine ⟨⟨V, ?_, ?_, fun r hr => by rw [s']; exact i' r (h.rs r hr), fun r hr => by rw [s']; exact i' r (h.rt r hr), h.ne, h.s1, h.t1, k1.1, k1.2, k2.1, k2.2⟩, b'⟩
  · exact (((h.s.apart (g' := gd) (by omega) _).apart (g' := gd) (by omega) _).apart (g' := gd) (by omega) _).apart (g' := gd) (by omega) _
  · exact (((h.t.apart (g' := gd) (by omega) _).apart (g' := gd) (by omega) _).apart (g' := gd) (by omega) _).apart (g' := gd) (by omega) _
/-- A row of the list now is stored. -/
theorem CrM.row {a : Nat} (h : CrM base gd gs gn y S T w) (ha : a < T.length) {r : Row} (hr : RIn w w.heap.size r) (hb : base ≤ gd) :
    CrM base gd gs gn y S (T.set a r) (w.setCell ⟨gn, a, none⟩ (.slice r.A r.l.length r.c)) ∧ Below base w (w.setCell ⟨gn, a, none⟩ (.slice r.A r.l.length r.c)) := by
  have v0 := h.t.c a _ (List.getElem?_eq_getElem ha)
  have e1 := h.s1
  have e2 := h.t1
  have e3 := h.ne
  have ss : (w.setCell ⟨gn, a, none⟩ (.slice r.A r.l.length r.c)).heap.size = w.heap.size := by simp
  refine ⟨⟨h.d.apart (by omega) h.c3 h.c4 v0 (slice_no8 _ _ _) _, h.s.apart e3 _, h.t.set ha r, fun q hq => ?_, fun q hq => ?_, h.ne, h.s1, h.t1, h.c1, h.c2, h.c3, h.c4⟩, (Below.refl base w).setCell (p := ⟨gn, a, none⟩) (show base ≤ gn by omega) _⟩
  · rw [ss]; exact rin_set (h.rs q hq) v0 (slice_no8 _ _ _) _
  · rw [ss]
    rcases List.mem_or_eq_of_mem_set hq with k | rfl
    · exact rin_set (h.rt q k) v0 (slice_no8 _ _ _) _
    · exact rin_set hr v0 (slice_no8 _ _ _) _
/-- Another list sure. -/
theorem CrM.sure {g : Nat} {S' : List Row} (h : CrM base gd gs gn y S T w) (hb : Below w.heap.size w w') (hw : Want w' g S') (hg : w.heap.size ≤ g) (hr : ∀ r ∈ S', RIn w' w'.heap.size r) : CrM base gd g gn y S' T w' := by
  have k := own_notnew h.d.o hg
  have := h.d.hi
  have := h.t.hi
  exact ⟨h.d.below hb, hw, h.t.below hb, hr, fun r hr => (h.rt r hr).next hb, by omega, by omega, h.t1, k.1, k.2, h.c3, h.c4⟩
/-- Another list now. -/
theorem CrM.now {g : Nat} {T' : List Row} (h : CrM base gd gs gn y S T w) (hb : Below w.heap.size w w') (hw : Want w' g T') (hg : w.heap.size ≤ g) (hr : ∀ r ∈ T', RIn w' w'.heap.size r) : CrM base gd gs g y S T' w' := by
  have k := own_notnew h.d.o hg
  have := h.d.hi
  have := h.s.hi
  exact ⟨h.d.below hb, h.s.below hb, hw, fun r hr => (h.rs r hr).next hb, hr, by omega, h.s1, by omega, h.c1, h.c2, k.1, k.2⟩
theorem rws_of {w : World} {rs : List Row} (h : ∀ r ∈ rs, RIn w w.heap.size r) : Rws w w.heap.size rs := fun r hr => (h r hr).1
/-- TwinRows of a list of one's own. -/
theorem twins_p {g n c : Nat} {rs : List Row} {w : World} (hw : Want w g rs) (hr : ∀ r ∈ rs, RIn w w.heap.size r) (hn : rs.length = n) (h0 : 0 < n) (h8 : n ≤ 8) (hs : Short 1048576 rs) :
    Calls Try.prog 30 #[.slice (some ⟨g, 0, none⟩) n c] w fun e w' => (∃ (g' c' : Nat) (rs' : List Row), e = .returned (.slice (some ⟨g', 0, none⟩) n c') ∧ n ≤ c' ∧ c' ≤ maxLen ∧ w.heap.size ≤ g' ∧ Want w' g' rs' ∧ lists rs' = lists rs ∧ ∀ r ∈ rs', RIn w' w'.heap.size r) ∧ Below w.heap.size w w' := by
  refine (twins_any _ c n rs w hn hw.slv (rws_of hr) (by omega) hs).mono ?_
  rintro e w' ⟨⟨v, rs', rfl, ho⟩, hb⟩
  obtain ⟨g', c', rfl, k1, k2, k3, -, k5, k6, k7⟩ := want_of ho (by rw [lists_length]; exact hn) h0
  exact ⟨⟨g', c', rs', rfl, k1, k2, k3, k5, k6, k7⟩, hb⟩
theorem lists_setc (rs : List Row) (a : Nat) (r : Row) : lists (rs.set a r) = (lists rs).set a r.l := by simp [lists, List.map_set]
theorem twin_r {w : World} {r : Row} (hr : RIn w w.heap.size r) (hl : r.l.length ≤ 1048576) :
    Calls Try.prog 29 #[.slice r.A r.l.length r.c] w fun e w' => (∃ r' : Row, e = .returned (.slice r'.A r'.l.length r'.c) ∧ r'.l = r.l ∧ RIn w' w'.heap.size r') ∧ Below w.heap.size w w' := by
  refine (twin_any r.A r.c w.heap.size r.l w hr.1 hl).mono ?_
  rintro e w' ⟨⟨v, rfl, ho⟩, hb⟩
  obtain ⟨A, c, rfl, h1, h2, h3, -⟩ := ho.form
  exact ⟨⟨⟨A, c, r.l⟩, rfl, rfl, h3, h1, h2⟩, hb⟩
theorem Cr.short {n i : Nat} {D : Dsk} {S T : List Row} (h : Cr n i D (lists S) (lists T)) : Short 1048576 S ∧ Short 1048576 T ∧ S.length = n ∧ T.length = n := by
  have hl := h.lens
  rw [lists_length, lists_length] at hl
  refine ⟨fun r hr => ?_, fun r hr => ?_, hl.1, hl.2⟩
  · have h1 : r.l ∈ lists S := List.mem_map_of_mem hr
    rw [← h.sure] at h1
    obtain ⟨c, hc, e⟩ := List.mem_map.1 h1
    rw [← e]
    exact Nat.le_trans (h.st c hc).2.2.2.1 (by decide)
  · have h1 : r.l ∈ lists T := List.mem_map_of_mem hr
    rw [← h.now] at h1
    obtain ⟨c, hc, e⟩ := List.mem_map.1 h1
    rw [← e]
    exact Nat.le_trans (okst_play _ h c hc).2.2.2.1 (by decide)
end
end Go.Proofs.Ytegcbmimndmfkaa.dsk
